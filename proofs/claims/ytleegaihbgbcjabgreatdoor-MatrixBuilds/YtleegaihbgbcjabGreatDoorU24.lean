import Derived.Test.YtleegaihbgbcjabGreatDoorU20
set_option linter.unusedVariables false
set_option linter.unusedSimpArgs false
set_option maxRecDepth 100000
set_option maxHeartbeats 16000000
open Go.Proofs.Tryz
namespace Go.Proofs.YtleegaihbgbcjabGreatDoor
open Go.RowKit Num Bit
theorem Df:(madeCells zv.toArray (8*22)).toList=bP 8:=by kernel_rfl
theorem iI{w:World}{base g:Nat}{E:TypeId}(h:w.ownsRow base E 22 (.slice (some ⟨g,0,none⟩) 8 8) 8 (madeCells zv.toArray (8*22)).toList):aa w g (bP 8) E:=by
 obtain⟨_,h | ⟨g',cap,cur,e,_,hh,_,_,hs,ht⟩⟩:=h
 .simp at h
 .simp only[Value.slice.injEq,Option.some.injEq,Addr.mk.injEq]at e;obtain⟨⟨rfl,_,_⟩,_,rfl⟩:=e;unfold aa;rw[hh,<-Df,<-ht]
  have e3:cur.toList.take (8*22)=cur.toList:=List.take_of_length_le (by simp;omega);rw[e3]
theorem xA{ops:Array Oper}{rest:List Oper}{d:Option Tmp}{ty T TT:TypeId}{ps:String}{af:Array Edge}{a:Act}{w:World}{Q:Exit->Act->World->Prop}{x y:Operand}
  (g o:Nat) (pre old post cs:List Value) (ho:pre.length=o) (hx:a.eval x=.pointer (some ⟨g,o,none⟩)) (hy:a.eval y=.agg cs.toArray) (hc:aa w g (pre++(old++post)) TT) (lo:old.length=cs.length) (hi:(prog.info? T).map (·.size)=some cs.length) (h1:cs.toArray.all (·.oneCell')=true)
  (h:∀w1,aa w1 g (pre++(cs++post)) TT->aC g w w1->wpList prog ops Q rest (a.put d undef) w1):
  wpList prog ops Q (⟨d,.store T x y,ty,ps,af,none⟩::rest) a w:=by
 subst ho;exact fZ g pre old post cs hx hy hc lo hi h1 h
structure dG (w:World) (g B:Nat) (R:Nat->RA) (css:List (List Value)):Prop where
 len:css.length<=8
 cel:aa w g (css.flatten++bP (8-css.length)) 63
 row:∀l c,css[l]?=some c->KI w c (R l)/\dU B c
theorem dG.keep{w w':World}{g B:Nat}{R:Nat->RA}{css:List (List Value)}(h:dG w g B R css)(hb:Below w.heap.size w w'):dG w' g B R css:=⟨h.len,h.cel.kept hb,fun l c e=>⟨(h.row l c e).1.keep hb,(h.row l c e).2⟩⟩
theorem dG.l22{w:World}{g B:Nat}{R:Nat->RA}{css:List (List Value)}(h:dG w g B R css):∀c∈css,c.length=22:=fun c hc=>by
 obtain⟨l,hl⟩:=List.getElem?_of_mem hc;exact(h.row l c hl).1.arg.nine.symm
theorem dG.nou{w:World}{g B:Nat}{R:Nat->RA}{css:List (List Value)}(h:dG w g B R css):bQ (css.flatten++bP (8-css.length)):=by
 refine bQ.app (bQ.flat fun c hc=>?_) (bQ.flat fun c hc=>?_)
 .obtain⟨l,hl⟩:=List.getElem?_of_mem hc;exact(h.row l c hl).1.nou
 .rw[(List.mem_replicate.1 hc).2];exact tt
theorem dG.lv{w:World}{g B:Nat}{R:Nat->RA}{css:List (List Value)}(h:dG w g B R css)(av:List RA)(h8:css.length=8)(ha:av.length=8)(hR:∀l,l<8->av.getD l ra0=R l):Lv w (some ⟨g,0,none⟩) av:=fun _=>by
 refine⟨g,0,rfl,h.cel.lt,fun l hl=>?_⟩;have hl:l<8:=by omega
 obtain⟨c,hc⟩:∃c,css[l]?=some c:=⟨_,List.getElem?_eq_getElem (by omega)⟩;obtain⟨p,q,e1,e2⟩:=uT css h.l22 l c hc (bP (8-css.length));refine⟨c,?_,?_⟩
 .have:=h.cel;rw[e1]at this;have:=aa.part p c q this;rwa [e2,<-Nat.zero_add (l*22)]at this
 .rw[hR l hl];exact(h.row l c hc).1
theorem dG.only{w w2:World}{g g0 B:Nat}{R:Nat->RA}{css:List (List Value)}{gs:List Value}{T:TypeId}(h:dG w g B R css)(hg:g0≠g)(hB:g0<B)(hc:aa w g0 gs T)(hn:bQ gs)(hO:aC g0 w w2)(G2:GV w2):dG w2 g B R css:=
 ⟨h.len,hO.cel h.cel (fun e=>hg e.symm),fun l c e=>⟨(h.row l c e).1.only2 ((h.row l c e).2.ne hB) hc hn hO G2,(h.row l c e).2⟩⟩
theorem dG.push{w w2:World}{g B:Nat}{R:Nat->RA}{css:List (List Value)}{c:List Value}(h:dG w g B R css)(hB:g<B)(hl:css.length<8)(hk:KI w c (R css.length))(hn:dU B c)(h2:aa w2 g (css.flatten++(c++bP (7-css.length))) 63)(hO:aC g w w2)(G2:GV w2):dG w2 g B R (css++[c]):=by
 refine⟨by simp;omega,?_,fun l d e=>?_⟩
 .have e:(css++[c]).flatten++bP (8-(css++[c]).length)=css.flatten++(c++bP (7-css.length)):=by
   rw[List.flatten_append,List.length_append];simp
  rw[e];exact h2
 .by_cases q:l<css.length
  .rw[List.getElem?_append_left q]at e;obtain⟨e1,e2⟩:=h.row l d e;exact⟨e1.only2 (e2.ne hB) h.cel h.nou hO G2,e2⟩
  .have q2:l=css.length:=by
    have:=(List.getElem?_eq_some_iff.1 e).1;simp at this;omega
   subst q2;rw[List.getElem?_append_right (Nat.le_refl _),Nat.sub_self]at e;simp at e;subst e;exact⟨hk.only2 (hn.ne hB) h.cel h.nou hO G2,hn⟩
theorem GV.only{w w':World}{g:Nat}(h:GV w)(hO:aC g w w')(hg:2<=g):GV w':=by
 obtain⟨⟨T1,h1⟩,⟨T2,h2⟩⟩:=h;exact⟨⟨T1,hO.cel h1 (by omega)⟩,⟨T2,hO.cel h2 (by omega)⟩⟩
theorem px(k:IntKind)(hk:k≠.u64)(l:List Nat):bQ (vK k l):=fun v hv n e=>by
 subst e;unfold vK at hv;obtain⟨_,_,e⟩:=List.mem_map.1 hv;injection e with e1 e2
 exact hk e1
def zq(t:List Nat)(q:Nat):List Nat:=(List.range 8).map fun l=>if l<q then Mx.zs t l else 0
theorem re(t:List Nat):zq t 0=List.replicate 8 0:=by
 unfold zq;rw[show(fun l=>if l<0 then Mx.zs t l else 0)=fun _=>0 by funext l;rw[if_neg (Nat.not_lt_zero _)],List.map_const'];simp
theorem wu(t:List Nat):zq t 8=mZ t:=by
 unfold zq mZ;refine List.map_congr_left fun l hl=>?_;rw[if_pos (List.mem_range.1 hl)]
theorem nK(t:List Nat)(q:Nat):(zq t q).length=8:=by simp[zq]
theorem uQ(t:List Nat)(q l:Nat)(h:l<8):(zq t q)[l]?=some (if l<q then Mx.zs t l else 0):=by
 unfold zq;rw[List.getElem?_map,List.getElem?_range h];rfl
theorem wt(t:List Nat)(q:Nat)(h:q<8):(zq t q).set q (Mx.zs t q)=zq t (q+1):=by
 refine List.ext_getElem? fun l=>?_;by_cases hl:l<8
 .rw[List.getElem?_set,nK,uQ _ _ _ hl,uQ _ _ _ hl];by_cases e:q=l
  .subst e;rw[if_pos rfl,if_pos h,if_pos (by omega)]
  .rw[if_neg e];by_cases c:l<q
   .rw[if_pos c,if_pos (by omega)]
   .rw[if_neg c,if_neg (by omega)]
 .rw[List.getElem?_eq_none (by rw[List.length_set,nK];omega),List.getElem?_eq_none (by rw[nK];omega)]
theorem mQ(k:IntKind)(l:List Nat)(i v:Nat):(vK k l).set i (.int k (v:Nat))=vK k (l.set i v):=by simp[vK,List.map_set]
theorem fY(k:IntKind)(l:List Nat)(i:Nat)(h:i<l.length):(vK k l)[i]?=some (.int k (gt l i:Nat)):=by
 unfold vK gt;rw[List.getElem?_map,List.getD_eq_getElem?_getD,List.getElem?_eq_getElem h];rfl
theorem tB{w:World}{g:Nat}{l:List Nat}(h:aa w g (vK .i64 l) 3):Nd w (some ⟨g,0,none⟩) (mI l):=fun _=>⟨g,0,rfl,h.lt,fun i hi=>by
 rw[dh]at hi;rw[Nat.zero_add,ip l i hi]
 exact h.cell i (fY _ l i hi)⟩
theorem eO{w:World}{base g n:Nat}{k:IntKind}{E:TypeId}(h:w.ownsRow base E 1 (.slice (some ⟨g,0,none⟩) n n) n (madeCells #[.int k 0] n).toList):aa w g (vK k (List.replicate n 0)) E:=by
 obtain⟨_,h | ⟨g',cap,cur,e,_,hh,_,_,hs,ht⟩⟩:=h
 .simp at h
 .simp only[Value.slice.injEq,Option.some.injEq,Addr.mk.injEq]at e;obtain⟨⟨rfl,_,_⟩,_,rfl⟩:=e;unfold aa;rw[hh]
  have e2:(madeCells #[.int k 0] n).toList=vK k (List.replicate n 0):=by
   rw[toList_madeCells_one (.int k 0) n,vK,List.map_replicate];rfl
  rw[e2]at ht;have e3:cur.toList.take (n*1)=cur.toList:=List.take_of_length_le (by simp;omega);rw[e3]at ht;rw[<-ht]
theorem Hu{w:World}{base n c:Nat}{ao:Option Addr}{l:List Nat}(h:w.ownsRow base 5 1 (.slice ao n c) n (vK .u8 l))(hn:n=l.length):Bd w ao l:=fun h0=>by
 have h':=h;obtain⟨_,⟨e,h1⟩ | ⟨g,cap,cur,e,e2,hh,_⟩⟩:=h
 .injection e with e1 e2 e3
  omega
 .simp only[Value.slice.injEq]at e;obtain⟨rfl,_,rfl⟩:=e;refine⟨g,0,rfl,(Array.getElem?_eq_some_iff.1 hh).1,fun i hi=>?_⟩;rw[Nat.zero_add];exact(Ag.owns_cells h').2 i _ (fY _ l i hi)
theorem vW{w w':World}{g:Nat}{ao:Option Addr}{l:List Nat}(h:Bd w ao l)(ha:∀a,ao=some a->0<l.length->a.block≠g)(hO:aC g w w'):Bd w' ao l:=fun h0=>by
 obtain⟨b,off,e,hb,hc⟩:=h h0;have hg:=ha _ e h0;exact⟨b,off,e,by rw[hO.size];exact hb,fun i hi=>(hO.cell (p:=⟨b,off+i,none⟩) hg).trans (hc i hi)⟩
theorem jp:(prog.info? 3).map (fun i=>(i.zero,i.size,i.bytes))=some (some (.int .i64 0),1,8):=by kernel_rfl
theorem cZ{ops:Array Oper}{d:Option Tmp}{ty t:TypeId}{ps:String}{af:Array Edge}{a:Act}{w:World}{K:Act->World->Prop}{Q:Exit->Act->World->Prop}{E:Prop}{l c:Operand}
  (base:Nat) (e:TypeId) (i:TypeInfo) (z:Value) (size:Nat) (h1:prog.underlying t=some (.slice e)) (h2:prog.info? e=some i) (h3:i.zero=some z) (h4:i.size=size) (n:Nat) (hl:a.eval l=.int .i64 n) (hc:a.eval c=.int .i64 n) (b2:i.bytes*n<=281474976710656) (b3:n<=maxLen) (b4:base<=w.heap.size)
  (hK:∀w',w'.ownsRow base e size (.slice (some ⟨w.heap.size,0,none⟩) n n) n (madeCells z.cells (n*size)).toList->w.grownBy w' none->K (a.put d (.slice (some ⟨w.heap.size,0,none⟩) n n)) w'):
  if Region.wanted (⟨d,.makeSlice t l c,ty,ps,af,none⟩:Oper) (yielded ops a.tmps)=true then Oper.wp prog (⟨d,.makeSlice t l c,ty,ps,af,none⟩:Oper) a w K Q else E:=by
 rw[if_pos (by simp[Region.wanted])];obtain⟨w',hrun,r1,r2⟩:=run_make_full (P:=prog) w base t e i z size h1 h2 h3 h4 .i64 .i64 n b2 b3 b4;unfold Oper.wp;simp[execOp,hl,hc,hrun,Result.andThen];exact hK w' r1 r2
def QM(w:World)(k:Int)(n:Nat)(v6:Value)(wx:World):Prop:=∃gL gz gx,v6=.pointer (some ⟨gx,0,none⟩)/\(w.heap.size<gL/\w.heap.size<gz/\w.heap.size<gx/\gL≠gz/\gL≠gx/\gz≠gx)/\aa wx gx [.int .i64 k,.int .i64 n,.slice (some ⟨gL,0,none⟩) 8 8,.slice (some ⟨gz,0,none⟩) 8 8] 27/\aa wx gL (bP 8) 63/\aa wx gz (vK .i64 (List.replicate 8 0)) 3/\aa wx w.heap.size [.int .i64 0,.int .i64 0,.slice none 0 0,.slice none 0 0] 27/\Below w.heap.size w wx
theorem fd:(prog.info? 27).map (·.size)=some 4:=by kernel_rfl
theorem tQ(k:Int)(VV:VB k)(ao:Option Addr)(t:List Nat)(cap:Nat)(w:World)(hk:1<=k/\k<=3)(hx:Bd w ao t)(hB:fV t)(hn:t.length<=3000)(G:GV w):
  Calls prog 8 #[.int .i64 k,.slice ao t.length cap] w fun e w'=>∃cs,e=.returned (.tuple #[.agg cs.toArray,.int .i64 0])/\MX w' cs k t/\Below w.heap.size w w':=by
 have hK:aD k:=by unfold aD;omega
 obtain⟨i0,hi,hz0,hz1,hz2⟩:=info_parts jp;obtain⟨iv,hiv,hzv0,hzv1,hzv2⟩:=info_parts nX;have HG:=ag G;have HX:=ag hx;have g2:=G.two;obtain⟨n,hnn⟩:∃n,Hid (n=t.length):=⟨_,rfl⟩
 have hn2:n<=3000:=by rw[hnn.out];exact hn
 have CR:Hid (∀l so sc gl w0,l<8->Bd w0 so (Mx.sy t l)->aa w0 gl [.int .i64 (l:Int)] 3->Calls prog 27 #[.slice so n sc,.func (.func 24) #[] #[.pointer (some ⟨gl,0,none⟩)]] w0 fun e w'=>∃bo dap,e=.returned (.agg #[.int .i64 (n:Nat),.slice bo (aB (Mx.rw_ t l)).length dap])/\Wd w' bo (aB (Mx.rw_ t l))/\(aB (Mx.rw_ t l)).length<=dap/\Below w0.heap.size w0 w'):=fun l so sc gl w0 hl hb hc=>by
  have:=tF so (Mx.sy t l) sc l gl w0 hb (Mx.byt_sy hB l) (by rw[Mx.length_sy];omega) hl hc;rw[<-Mx.rw_sy,Mx.length_sy,<-hnn.out]at this;exact this
 have CV:Hid (∀l bo dap w0,Below w.heap.size w w0->Wd w0 bo (aB (Mx.rw_ t l))->(aB (Mx.rw_ t l)).length<=dap->Calls prog 26 #[.int .i64 k,.agg #[.int .i64 (n:Nat),.slice bo (aB (Mx.rw_ t l)).length dap]] w0 fun e w'=>∃cs:List Value,e=.returned (.tuple #[.agg cs.toArray,.int .i64 0])/\KI w' cs (kB k (t.length:Int) (aB (Mx.rw_ t l)))/\Below w0.heap.size w0 w'/\dU w0.heap.size cs):=fun l bo dap w0 hb h1 h2=>by
  have:=VV (n:Int) bo (aB (Mx.rw_ t l)) dap w0 (by unfold aD;omega) h1 (cY _ _) h2 ⟨by omega,by unfold aB;rw[cP,Mx.length_rw];omega⟩ (G.keep hb)
  have e:kE k (n:Int) (aB (Mx.rw_ t l))=0:=by rw[hnn.out];exact mh k _ _ hk.1 hk.2 (lB hn l)
  rw[e]at this;rw[<-hnn.out];exact this
 have CP:Hid (∀l so sc gl w0,l<8->Bd w0 so (Mx.sy t l)->aa w0 gl [.int .i64 (l:Int)] 3->Calls prog 28 #[.slice so n sc,.func (.func 24) #[] #[.pointer (some ⟨gl,0,none⟩)]] w0 fun e w'=>∃ao cap,e=.returned (.tuple #[.slice ao n cap,.int .i64 (Mx.zs t l:Nat)])/\Bd w' ao (Mx.sy t (l+1))/\(∀a,ao=some a->w0.heap.size<=a.block)/\Below w0.heap.size w0 w'):=fun l so sc gl w0 hl hb hc=>by
  have:=Cn so (Mx.sy t l) sc gl (Mx.tb l) w0 hb (by rw[Mx.length_sy];omega) (fun x w1 hm hb1=>by
   obtain⟨i,hi1,rfl⟩:=List.getElem_of_mem hm
   have hx8:(Mx.sy t l)[i]<256:=by
    have:=Mx.byt_sy hB l i;unfold gt at this;rw[List.getD_eq_getElem?_getD,List.getElem?_eq_getElem hi1]at this;exact this
   refine(tG _ l gl hx8 hl w1 (hc.kept hb1)).mono ?_;rintro e w2 ⟨rfl,rfl⟩
   exact⟨rfl,Below.refl _ _⟩)
  rw[Mx.length_sy,<-hnn.out]at this;refine this.mono ?_;rintro e w' ⟨ao,m,cap,rfl,hm,how,hbe⟩;have em:m=n:=by rw[hm,(Mx.perm_pt _ _).length_eq,Mx.length_sy,hnn.out]
  subst em
  have ez:(fl (Mx.tb l) false (Mx.sy t l) m).length=Mx.zs t l:=by
   rw[Mx.zs_sy];unfold fl;rw[List.take_of_length_le (by rw[Mx.length_sy,<-hnn.out];exact Nat.le_refl _)]
  rw[<-Mx.sy_succ]at how hm;rw[ez];exact⟨ao,cap,rfl,Hu how hm,Be how,hbe⟩
 rw[<-hnn.out];have n1:¬(n:Int)>8192:=by omega
 obtain⟨W,hW⟩:∃W,W=w.alloc (.cells #[.int .i64 0,.int .i64 0,.slice none 0 0,.slice none 0 0] 27):=⟨_,rfl⟩;have bW:=ag (show Below w.heap.size w W by rw[hW];exact below_alloc w _)
 have B4:=ag (show aa W w.heap.size [.int .i64 0,.int .i64 0,.slice none 0 0,.slice none 0 0] 27 by rw[hW];exact aa.new w _ _);clear hx G;go_enter func8,ntmps8;go_upto_region 3 with fail
 rw[<-hW];go_cut [6] (fun v6 wx=>QM w k n v6 wx)
 case first=>
  refine bn [7] (fun _=>True) (by kernel_rfl) ?_
  have C4:=ag (B4.out.drew);have HBc:=ag (bW.out.drew);have sY:=C4.out.lt;clear CR CV CP HG HX hW bW B4;generalize W.drew=Y at *;have hS:True:=trivial;refine aK 0 hS ?_;refine aK 1 hS ?_
  refine aK 2 hS ?_;refine az.threeM 3 4 6 (by kernel_rfl) rfl rfl rfl ?_ ?_ ?_
  .intro K hK;refine cZ Y.heap.size 63 iv (.agg zv.toArray) 22 underlying24 hiv hzv0 hzv1 8 rfl rfl (by rw[hzv2];omega) (by unfold maxLen;omega) (Nat.le_refl _) ?_;intro YL hown hgr
   have CL:=ag (iI hown);have bYL:Below Y.heap.size Y YL:=(Below.refl _ _).grown hgr (Nat.le_refl _) (fun k h=>by cases h);clear hown hgr;refine hK.out _ _ (fun _=>trivial) ?_;clear hK K
   try simp only[Act.put,aw,ar,an,ah,aj,ai]
   replace C4:=ag (C4.out.kept bYL);replace HBc:=ag (bg HBc.out bYL);have sYL:=CL.out.lt;clear bYL;obtain⟨gL,hgL⟩:∃g,Hid (g=Y.heap.size):=⟨_,rfl⟩;rw[<-hgL.out]at CL sYL⊢
   have loL:Y.heap.size<=gL:=by rw[hgL.out];exact Nat.le_refl _
   clear hgL;refine az.two 4 6 (by kernel_rfl) rfl rfl ?_ ?_
   .intro K hK;refine cZ YL.heap.size 3 i0 (.int .i64 0) 1 underlying25 hi hz0 hz1 8 rfl rfl (by rw[hz2];omega) (by unfold maxLen;omega) (Nat.le_refl _) ?_;intro YLZ hown hgr
    have CZ:=ag (eO (k:=.i64) (n:=8) hown);have bYLZ:Below YL.heap.size YL YLZ:=(Below.refl _ _).grown hgr (Nat.le_refl _) (fun k h=>by cases h);clear hown hgr;refine hK.out _ _ (fun _=>trivial) ?_
    clear hK K;try simp only[Act.put,aw,ar,an,ah,aj,ai]
    replace CL:=ag (CL.out.kept bYLZ);replace C4:=ag (C4.out.kept bYLZ);replace HBc:=ag (bg HBc.out bYLZ);have sYLZ:=CZ.out.lt;clear bYLZ
    obtain⟨gZ,hgZ⟩:∃g,Hid (g=YL.heap.size):=⟨_,rfl⟩;rw[<-hgZ.out]at CZ sYLZ⊢;have loZ:YL.heap.size<=gZ:=by rw[hgZ.out];exact Nat.le_refl _
    clear hgZ;have hS:True:=trivial;refine aK 5 hS ?_;refine aO 6 ?_;intro K hK;go_simp;refine hK.out _ _ (fun _=>trivial) ?_;clear hK K;try simp only[Act.put,aw,ar,an,ah,aj,ai]
    obtain⟨YLZX,hYLZX⟩:∃YLZX,YLZX=YLZ.alloc (.cells #[.int .i64 0,.int .i64 0,.slice none 0 0,.slice none 0 0] 27):=⟨_,rfl⟩;have bYLZX:Below YLZ.heap.size YLZ YLZX:=by rw[hYLZX];exact below_alloc _ _
    have CX:=ag (show aa YLZX YLZ.heap.size [.int .i64 0,.int .i64 0,.slice none 0 0,.slice none 0 0] 27 by rw[hYLZX];exact aa.new _ _ _);rw[<-hYLZX];clear hYLZX;replace CL:=ag (CL.out.kept bYLZX)
    replace CZ:=ag (CZ.out.kept bYLZX);replace C4:=ag (C4.out.kept bYLZX);replace HBc:=ag (bg HBc.out bYLZX);have sYLZX:=CX.out.lt;clear bYLZX
    obtain⟨gX,hgX⟩:∃g,Hid (g=YLZ.heap.size):=⟨_,rfl⟩;rw[<-hgX.out]at CX sYLZX⊢;have loX:YLZ.heap.size<=gX:=by rw[hgX.out];exact Nat.le_refl _
    clear hgX;have hS:True:=trivial;refine aO 7 ?_;intro K hK;have X4:=C4.out.lt
    refine gR gX [.int .i64 0,.int .i64 0,.slice none 0 0,.slice none 0 0] [.int .i64 k,.int .i64 (n:Int),.slice (some ⟨gL,0,none⟩) 8 8,.slice (some ⟨gZ,0,none⟩) 8 8] rfl rfl CX.out rfl fd (by simp[Value.oneCell']) ?_
    intro wE CE OE;refine hK.out _ _ (fun h=>absurd (by decide) h) ?_;clear hK K;try simp only[Act.put,aw,ar,an,ah,aj,ai]
    refine az.done (by kernel_rfl) ?_ _
    have hQ:Hid (QM w k n (.pointer (some ⟨gX,0,none⟩)) wE):=⟨gL,gZ,gX,rfl,⟨by omega,by omega,by omega,by omega,by omega,by omega⟩,CE,OE.cel CL.out (by omega),OE.cel CZ.out (by omega),OE.cel C4.out (by omega),HBc.out.trans (OE.below (by omega))⟩
    clear CE OE CL CZ CX C4 HBc;go_wp2_with fail;go_meet;exact hQ.out
   .intro K hK;go_simp;refine hK.out _ _ (fun _=>trivial) ?_;clear hK K;try simp only[Act.put,aw,ar,an,ah,aj,ai]
    obtain⟨YLX,hYLX⟩:∃YLX,YLX=YL.alloc (.cells #[.int .i64 0,.int .i64 0,.slice none 0 0,.slice none 0 0] 27):=⟨_,rfl⟩;have bYLX:Below YL.heap.size YL YLX:=by rw[hYLX];exact below_alloc _ _
    have CX:=ag (show aa YLX YL.heap.size [.int .i64 0,.int .i64 0,.slice none 0 0,.slice none 0 0] 27 by rw[hYLX];exact aa.new _ _ _);rw[<-hYLX];clear hYLX;replace CL:=ag (CL.out.kept bYLX)
    replace C4:=ag (C4.out.kept bYLX);replace HBc:=ag (bg HBc.out bYLX);have sYLX:=CX.out.lt;clear bYLX;obtain⟨gX,hgX⟩:∃g,Hid (g=YL.heap.size):=⟨_,rfl⟩;rw[<-hgX.out]at CX sYLX⊢
    have loX:YL.heap.size<=gX:=by rw[hgX.out];exact Nat.le_refl _
    clear hgX;refine aO 4 ?_;intro K hK;refine cZ YLX.heap.size 3 i0 (.int .i64 0) 1 underlying25 hi hz0 hz1 8 rfl rfl (by rw[hz2];omega) (by unfold maxLen;omega) (Nat.le_refl _) ?_;intro YLXZ hown hgr
    have CZ:=ag (eO (k:=.i64) (n:=8) hown);have bYLXZ:Below YLX.heap.size YLX YLXZ:=(Below.refl _ _).grown hgr (Nat.le_refl _) (fun k h=>by cases h);clear hown hgr;refine hK.out _ _ (fun _=>trivial) ?_
    clear hK K;try simp only[Act.put,aw,ar,an,ah,aj,ai]
    replace CL:=ag (CL.out.kept bYLXZ);replace CX:=ag (CX.out.kept bYLXZ);replace C4:=ag (C4.out.kept bYLXZ);replace HBc:=ag (bg HBc.out bYLXZ);have sYLXZ:=CZ.out.lt;clear bYLXZ
    obtain⟨gZ,hgZ⟩:∃g,Hid (g=YLX.heap.size):=⟨_,rfl⟩;rw[<-hgZ.out]at CZ sYLXZ⊢;have loZ:YLX.heap.size<=gZ:=by rw[hgZ.out];exact Nat.le_refl _
    clear hgZ;have hS:True:=trivial;refine aK 5 hS ?_;refine aO 7 ?_;intro K hK;have X4:=C4.out.lt
    refine gR gX [.int .i64 0,.int .i64 0,.slice none 0 0,.slice none 0 0] [.int .i64 k,.int .i64 (n:Int),.slice (some ⟨gL,0,none⟩) 8 8,.slice (some ⟨gZ,0,none⟩) 8 8] rfl rfl CX.out rfl fd (by simp[Value.oneCell']) ?_
    intro wE CE OE;refine hK.out _ _ (fun h=>absurd (by decide) h) ?_;clear hK K;try simp only[Act.put,aw,ar,an,ah,aj,ai]
    refine az.done (by kernel_rfl) ?_ _
    have hQ:Hid (QM w k n (.pointer (some ⟨gX,0,none⟩)) wE):=⟨gL,gZ,gX,rfl,⟨by omega,by omega,by omega,by omega,by omega,by omega⟩,CE,OE.cel CL.out (by omega),OE.cel CZ.out (by omega),OE.cel C4.out (by omega),HBc.out.trans (OE.below (by omega))⟩
    clear CE OE CL CZ CX C4 HBc;go_wp2_with fail;go_meet;exact hQ.out
  .intro K hK;refine cZ Y.heap.size 3 i0 (.int .i64 0) 1 underlying25 hi hz0 hz1 8 rfl rfl (by rw[hz2];omega) (by unfold maxLen;omega) (Nat.le_refl _) ?_;intro YZ hown hgr
   have CZ:=ag (eO (k:=.i64) (n:=8) hown);have bYZ:Below Y.heap.size Y YZ:=(Below.refl _ _).grown hgr (Nat.le_refl _) (fun k h=>by cases h);clear hown hgr;refine hK.out _ _ (fun _=>trivial) ?_;clear hK K
   try simp only[Act.put,aw,ar,an,ah,aj,ai]
   replace C4:=ag (C4.out.kept bYZ);replace HBc:=ag (bg HBc.out bYZ);have sYZ:=CZ.out.lt;clear bYZ;obtain⟨gZ,hgZ⟩:∃g,Hid (g=Y.heap.size):=⟨_,rfl⟩;rw[<-hgZ.out]at CZ sYZ⊢
   have loZ:Y.heap.size<=gZ:=by rw[hgZ.out];exact Nat.le_refl _
   clear hgZ;refine az.two 3 6 (by kernel_rfl) rfl rfl ?_ ?_
   .intro K hK;refine cZ YZ.heap.size 63 iv (.agg zv.toArray) 22 underlying24 hiv hzv0 hzv1 8 rfl rfl (by rw[hzv2];omega) (by unfold maxLen;omega) (Nat.le_refl _) ?_;intro YZL hown hgr
    have CL:=ag (iI hown);have bYZL:Below YZ.heap.size YZ YZL:=(Below.refl _ _).grown hgr (Nat.le_refl _) (fun k h=>by cases h);clear hown hgr;refine hK.out _ _ (fun _=>trivial) ?_;clear hK K
    try simp only[Act.put,aw,ar,an,ah,aj,ai]
    replace CZ:=ag (CZ.out.kept bYZL);replace C4:=ag (C4.out.kept bYZL);replace HBc:=ag (bg HBc.out bYZL);have sYZL:=CL.out.lt;clear bYZL
    obtain⟨gL,hgL⟩:∃g,Hid (g=YZ.heap.size):=⟨_,rfl⟩;rw[<-hgL.out]at CL sYZL⊢;have loL:YZ.heap.size<=gL:=by rw[hgL.out];exact Nat.le_refl _
    clear hgL;have hS:True:=trivial;refine aK 5 hS ?_;refine aO 6 ?_;intro K hK;go_simp;refine hK.out _ _ (fun _=>trivial) ?_;clear hK K;try simp only[Act.put,aw,ar,an,ah,aj,ai]
    obtain⟨YZLX,hYZLX⟩:∃YZLX,YZLX=YZL.alloc (.cells #[.int .i64 0,.int .i64 0,.slice none 0 0,.slice none 0 0] 27):=⟨_,rfl⟩;have bYZLX:Below YZL.heap.size YZL YZLX:=by rw[hYZLX];exact below_alloc _ _
    have CX:=ag (show aa YZLX YZL.heap.size [.int .i64 0,.int .i64 0,.slice none 0 0,.slice none 0 0] 27 by rw[hYZLX];exact aa.new _ _ _);rw[<-hYZLX];clear hYZLX;replace CZ:=ag (CZ.out.kept bYZLX)
    replace CL:=ag (CL.out.kept bYZLX);replace C4:=ag (C4.out.kept bYZLX);replace HBc:=ag (bg HBc.out bYZLX);have sYZLX:=CX.out.lt;clear bYZLX
    obtain⟨gX,hgX⟩:∃g,Hid (g=YZL.heap.size):=⟨_,rfl⟩;rw[<-hgX.out]at CX sYZLX⊢;have loX:YZL.heap.size<=gX:=by rw[hgX.out];exact Nat.le_refl _
    clear hgX;have hS:True:=trivial;refine aO 7 ?_;intro K hK;have X4:=C4.out.lt
    refine gR gX [.int .i64 0,.int .i64 0,.slice none 0 0,.slice none 0 0] [.int .i64 k,.int .i64 (n:Int),.slice (some ⟨gL,0,none⟩) 8 8,.slice (some ⟨gZ,0,none⟩) 8 8] rfl rfl CX.out rfl fd (by simp[Value.oneCell']) ?_
    intro wE CE OE;refine hK.out _ _ (fun h=>absurd (by decide) h) ?_;clear hK K;try simp only[Act.put,aw,ar,an,ah,aj,ai]
    refine az.done (by kernel_rfl) ?_ _
    have hQ:Hid (QM w k n (.pointer (some ⟨gX,0,none⟩)) wE):=⟨gL,gZ,gX,rfl,⟨by omega,by omega,by omega,by omega,by omega,by omega⟩,CE,OE.cel CL.out (by omega),OE.cel CZ.out (by omega),OE.cel C4.out (by omega),HBc.out.trans (OE.below (by omega))⟩
    clear CE OE CL CZ CX C4 HBc;go_wp2_with fail;go_meet;exact hQ.out
   .intro K hK;go_simp;refine hK.out _ _ (fun _=>trivial) ?_;clear hK K;try simp only[Act.put,aw,ar,an,ah,aj,ai]
    obtain⟨YZX,hYZX⟩:∃YZX,YZX=YZ.alloc (.cells #[.int .i64 0,.int .i64 0,.slice none 0 0,.slice none 0 0] 27):=⟨_,rfl⟩;have bYZX:Below YZ.heap.size YZ YZX:=by rw[hYZX];exact below_alloc _ _
    have CX:=ag (show aa YZX YZ.heap.size [.int .i64 0,.int .i64 0,.slice none 0 0,.slice none 0 0] 27 by rw[hYZX];exact aa.new _ _ _);rw[<-hYZX];clear hYZX;replace CZ:=ag (CZ.out.kept bYZX)
    replace C4:=ag (C4.out.kept bYZX);replace HBc:=ag (bg HBc.out bYZX);have sYZX:=CX.out.lt;clear bYZX;obtain⟨gX,hgX⟩:∃g,Hid (g=YZ.heap.size):=⟨_,rfl⟩;rw[<-hgX.out]at CX sYZX⊢
    have loX:YZ.heap.size<=gX:=by rw[hgX.out];exact Nat.le_refl _
    clear hgX;refine aO 3 ?_;intro K hK;refine cZ YZX.heap.size 63 iv (.agg zv.toArray) 22 underlying24 hiv hzv0 hzv1 8 rfl rfl (by rw[hzv2];omega) (by unfold maxLen;omega) (Nat.le_refl _) ?_
    intro YZXL hown hgr;have CL:=ag (iI hown);have bYZXL:Below YZX.heap.size YZX YZXL:=(Below.refl _ _).grown hgr (Nat.le_refl _) (fun k h=>by cases h);clear hown hgr;refine hK.out _ _ (fun _=>trivial) ?_
    clear hK K;try simp only[Act.put,aw,ar,an,ah,aj,ai]
    replace CZ:=ag (CZ.out.kept bYZXL);replace CX:=ag (CX.out.kept bYZXL);replace C4:=ag (C4.out.kept bYZXL);replace HBc:=ag (bg HBc.out bYZXL);have sYZXL:=CL.out.lt;clear bYZXL
    obtain⟨gL,hgL⟩:∃g,Hid (g=YZX.heap.size):=⟨_,rfl⟩;rw[<-hgL.out]at CL sYZXL⊢;have loL:YZX.heap.size<=gL:=by rw[hgL.out];exact Nat.le_refl _
    clear hgL;have hS:True:=trivial;refine aK 5 hS ?_;refine aO 7 ?_;intro K hK;have X4:=C4.out.lt
    refine gR gX [.int .i64 0,.int .i64 0,.slice none 0 0,.slice none 0 0] [.int .i64 k,.int .i64 (n:Int),.slice (some ⟨gL,0,none⟩) 8 8,.slice (some ⟨gZ,0,none⟩) 8 8] rfl rfl CX.out rfl fd (by simp[Value.oneCell']) ?_
    intro wE CE OE;refine hK.out _ _ (fun h=>absurd (by decide) h) ?_;clear hK K;try simp only[Act.put,aw,ar,an,ah,aj,ai]
    refine az.done (by kernel_rfl) ?_ _
    have hQ:Hid (QM w k n (.pointer (some ⟨gX,0,none⟩)) wE):=⟨gL,gZ,gX,rfl,⟨by omega,by omega,by omega,by omega,by omega,by omega⟩,CE,OE.cel CL.out (by omega),OE.cel CZ.out (by omega),OE.cel C4.out (by omega),HBc.out.trans (OE.below (by omega))⟩
    clear CE OE CL CZ CX C4 HBc;go_wp2_with fail;go_meet;exact hQ.out
  .intro K hK;go_simp;refine hK.out _ _ (fun _=>trivial) ?_;clear hK K;try simp only[Act.put,aw,ar,an,ah,aj,ai]
   obtain⟨YX,hYX⟩:∃YX,YX=Y.alloc (.cells #[.int .i64 0,.int .i64 0,.slice none 0 0,.slice none 0 0] 27):=⟨_,rfl⟩;have bYX:Below Y.heap.size Y YX:=by rw[hYX];exact below_alloc _ _
   have CX:=ag (show aa YX Y.heap.size [.int .i64 0,.int .i64 0,.slice none 0 0,.slice none 0 0] 27 by rw[hYX];exact aa.new _ _ _);rw[<-hYX];clear hYX;replace C4:=ag (C4.out.kept bYX)
   replace HBc:=ag (bg HBc.out bYX);have sYX:=CX.out.lt;clear bYX;obtain⟨gX,hgX⟩:∃g,Hid (g=Y.heap.size):=⟨_,rfl⟩;rw[<-hgX.out]at CX sYX⊢
   have loX:Y.heap.size<=gX:=by rw[hgX.out];exact Nat.le_refl _
   clear hgX;refine az.two 3 4 (by kernel_rfl) rfl rfl ?_ ?_
   .intro K hK;refine cZ YX.heap.size 63 iv (.agg zv.toArray) 22 underlying24 hiv hzv0 hzv1 8 rfl rfl (by rw[hzv2];omega) (by unfold maxLen;omega) (Nat.le_refl _) ?_;intro YXL hown hgr
    have CL:=ag (iI hown);have bYXL:Below YX.heap.size YX YXL:=(Below.refl _ _).grown hgr (Nat.le_refl _) (fun k h=>by cases h);clear hown hgr;refine hK.out _ _ (fun _=>trivial) ?_;clear hK K
    try simp only[Act.put,aw,ar,an,ah,aj,ai]
    replace CX:=ag (CX.out.kept bYXL);replace C4:=ag (C4.out.kept bYXL);replace HBc:=ag (bg HBc.out bYXL);have sYXL:=CL.out.lt;clear bYXL
    obtain⟨gL,hgL⟩:∃g,Hid (g=YX.heap.size):=⟨_,rfl⟩;rw[<-hgL.out]at CL sYXL⊢;have loL:YX.heap.size<=gL:=by rw[hgL.out];exact Nat.le_refl _
    clear hgL;refine aO 4 ?_;intro K hK;refine cZ YXL.heap.size 3 i0 (.int .i64 0) 1 underlying25 hi hz0 hz1 8 rfl rfl (by rw[hz2];omega) (by unfold maxLen;omega) (Nat.le_refl _) ?_;intro YXLZ hown hgr
    have CZ:=ag (eO (k:=.i64) (n:=8) hown);have bYXLZ:Below YXL.heap.size YXL YXLZ:=(Below.refl _ _).grown hgr (Nat.le_refl _) (fun k h=>by cases h);clear hown hgr;refine hK.out _ _ (fun _=>trivial) ?_
    clear hK K;try simp only[Act.put,aw,ar,an,ah,aj,ai]
    replace CX:=ag (CX.out.kept bYXLZ);replace CL:=ag (CL.out.kept bYXLZ);replace C4:=ag (C4.out.kept bYXLZ);replace HBc:=ag (bg HBc.out bYXLZ);have sYXLZ:=CZ.out.lt;clear bYXLZ
    obtain⟨gZ,hgZ⟩:∃g,Hid (g=YXL.heap.size):=⟨_,rfl⟩;rw[<-hgZ.out]at CZ sYXLZ⊢;have loZ:YXL.heap.size<=gZ:=by rw[hgZ.out];exact Nat.le_refl _
    clear hgZ;have hS:True:=trivial;refine aK 5 hS ?_;refine aO 7 ?_;intro K hK;have X4:=C4.out.lt
    refine gR gX [.int .i64 0,.int .i64 0,.slice none 0 0,.slice none 0 0] [.int .i64 k,.int .i64 (n:Int),.slice (some ⟨gL,0,none⟩) 8 8,.slice (some ⟨gZ,0,none⟩) 8 8] rfl rfl CX.out rfl fd (by simp[Value.oneCell']) ?_
    intro wE CE OE;refine hK.out _ _ (fun h=>absurd (by decide) h) ?_;clear hK K;try simp only[Act.put,aw,ar,an,ah,aj,ai]
    refine az.done (by kernel_rfl) ?_ _
    have hQ:Hid (QM w k n (.pointer (some ⟨gX,0,none⟩)) wE):=⟨gL,gZ,gX,rfl,⟨by omega,by omega,by omega,by omega,by omega,by omega⟩,CE,OE.cel CL.out (by omega),OE.cel CZ.out (by omega),OE.cel C4.out (by omega),HBc.out.trans (OE.below (by omega))⟩
    clear CE OE CL CZ CX C4 HBc;go_wp2_with fail;go_meet;exact hQ.out
   .intro K hK;refine cZ YX.heap.size 3 i0 (.int .i64 0) 1 underlying25 hi hz0 hz1 8 rfl rfl (by rw[hz2];omega) (by unfold maxLen;omega) (Nat.le_refl _) ?_;intro YXZ hown hgr
    have CZ:=ag (eO (k:=.i64) (n:=8) hown);have bYXZ:Below YX.heap.size YX YXZ:=(Below.refl _ _).grown hgr (Nat.le_refl _) (fun k h=>by cases h);clear hown hgr;refine hK.out _ _ (fun _=>trivial) ?_
    clear hK K;try simp only[Act.put,aw,ar,an,ah,aj,ai]
    replace CX:=ag (CX.out.kept bYXZ);replace C4:=ag (C4.out.kept bYXZ);replace HBc:=ag (bg HBc.out bYXZ);have sYXZ:=CZ.out.lt;clear bYXZ
    obtain⟨gZ,hgZ⟩:∃g,Hid (g=YX.heap.size):=⟨_,rfl⟩;rw[<-hgZ.out]at CZ sYXZ⊢;have loZ:YX.heap.size<=gZ:=by rw[hgZ.out];exact Nat.le_refl _
    clear hgZ;refine aO 3 ?_;intro K hK;refine cZ YXZ.heap.size 63 iv (.agg zv.toArray) 22 underlying24 hiv hzv0 hzv1 8 rfl rfl (by rw[hzv2];omega) (by unfold maxLen;omega) (Nat.le_refl _) ?_
    intro YXZL hown hgr;have CL:=ag (iI hown);have bYXZL:Below YXZ.heap.size YXZ YXZL:=(Below.refl _ _).grown hgr (Nat.le_refl _) (fun k h=>by cases h);clear hown hgr;refine hK.out _ _ (fun _=>trivial) ?_
    clear hK K;try simp only[Act.put,aw,ar,an,ah,aj,ai]
    replace CX:=ag (CX.out.kept bYXZL);replace CZ:=ag (CZ.out.kept bYXZL);replace C4:=ag (C4.out.kept bYXZL);replace HBc:=ag (bg HBc.out bYXZL);have sYXZL:=CL.out.lt;clear bYXZL
    obtain⟨gL,hgL⟩:∃g,Hid (g=YXZ.heap.size):=⟨_,rfl⟩;rw[<-hgL.out]at CL sYXZL⊢;have loL:YXZ.heap.size<=gL:=by rw[hgL.out];exact Nat.le_refl _
    clear hgL;have hS:True:=trivial;refine aK 5 hS ?_;refine aO 7 ?_;intro K hK;have X4:=C4.out.lt
    refine gR gX [.int .i64 0,.int .i64 0,.slice none 0 0,.slice none 0 0] [.int .i64 k,.int .i64 (n:Int),.slice (some ⟨gL,0,none⟩) 8 8,.slice (some ⟨gZ,0,none⟩) 8 8] rfl rfl CX.out rfl fd (by simp[Value.oneCell']) ?_
    intro wE CE OE;refine hK.out _ _ (fun h=>absurd (by decide) h) ?_;clear hK K;try simp only[Act.put,aw,ar,an,ah,aj,ai]
    refine az.done (by kernel_rfl) ?_ _
    have hQ:Hid (QM w k n (.pointer (some ⟨gX,0,none⟩)) wE):=⟨gL,gZ,gX,rfl,⟨by omega,by omega,by omega,by omega,by omega,by omega⟩,CE,OE.cel CL.out (by omega),OE.cel CZ.out (by omega),OE.cel C4.out (by omega),HBc.out.trans (OE.below (by omega))⟩
    clear CE OE CL CZ CX C4 HBc;go_wp2_with fail;go_meet;exact hQ.out
 case rest=>
  obtain⟨gL,gz,gx,rfl,⟨o1,o2,o3,o4,o5,o6⟩,cx,cl,cz,c4,hbx⟩:=hcut;have C4:=ag c4;have CX:=ag cx;have HBx:=ag hbx;have HZ:=ag (show aa wc gz (vK .i64 (zq t 0)) 3 by rw[re];exact cz)
  have HRw:=ag (show dG wc gL wc.heap.size (fun l=>kB k (t.length:Int) (aB (Mx.rw_ t l))) []from⟨Nat.zero_le _,by simpa using cl,fun l c e=>by simp at e⟩)
  have HS:=ag (show Bd wc ao (Mx.sy t 0)by rw[Mx.sy_zero];exact HX.out.keep hbx);have bz:=CX.out.lt;have bzL:=cl.lt;have bzZ:=cz.lt;obtain⟨B0,hB0⟩:∃B0,Hid (B0=wc.heap.size):=⟨_,rfl⟩
  have hLB:gL<B0:=by rw[hB0.out];exact bzL
  have hzB:gz<B0:=by rw[hB0.out];exact bzZ
  have hxB:gx<B0:=by rw[hB0.out];exact bz
  have h0B:Hid (B0<=wc.heap.size):=by rw[hB0.out];exact Nat.le_refl _
  rw[<-hB0.out]at HRw
  have HAp:Hid (∀a,ao=some a->0<t.length->a.block<w.heap.size\/B0<=a.block):=fun a ha h0=>by
   obtain⟨b,off,e,hb,_⟩:=HX.out h0;rw[e]at ha;cases ha;exact .inl hb
  clear cx cl cz c4 hbx bz bzL bzZ HX hW bW B4 hi hz0 hz1 hz2 hiv hzv0 hzv1 hzv2 hB0;go_wp2
  go_loopw [7,23] (fun vs vl wr=>∃(q:Nat) (so:Option Addr) (sc:Nat) (css:List (List Value)),q<=8/\vl=.int .i64 q/\vs=.slice so n sc/\Hid (css.length=q)/\Hid (Bd wr so (Mx.sy t q))/\Hid (∀a,so=some a->0<t.length->a.block<w.heap.size\/B0<=a.block)/\Hid (dG wr gL B0 (fun l=>kB k (t.length:Int) (aB (Mx.rw_ t l))) css)/\Hid (aa wr gz (vK .i64 (zq t q)) 3)/\Hid (aa wr gx [.int .i64 k,.int .i64 (n:Int),.slice (some ⟨gL,0,none⟩) 8 8,.slice (some ⟨gz,0,none⟩) 8 8] 27)/\Hid (aa wr w.heap.size [.int .i64 0,.int .i64 0,.slice none 0 0,.slice none 0 0] 27)/\Hid (B0<=wr.heap.size)/\Hid (Below w.heap.size w wr)) (fun _ vl _=>8-(intOf vl).toNat)
  case atStart=>exact⟨0,ao,cap,[],Nat.zero_le _,rfl,rfl,rfl,HS,HAp,HRw,HZ,CX,C4,h0B,HBx⟩
  case round=>
   clear HS HAp HRw HZ CX C4 h0B HBx;obtain⟨q,so,sc,css,hq,rfl,rfl,hcl,HS,HAp,HRw,HZ,CX,C4,h0B,HB⟩:=hrel;by_cases hlt:q<8
   .have hltz:(q:Int)<8:=by omega
    obtain⟨W1,hW1⟩:∃W1,W1=wr.alloc (.cells #[.int .i64 q] 3):=⟨_,rfl⟩;have b1:Below wr.heap.size wr W1:=by rw[hW1];exact below_alloc wr _
    have CLb:=ag (show aa W1 wr.heap.size [.int .i64 q] 3 by rw[hW1];exact aa.new wr _ _);replace HS:=ag (HS.out.keep b1);replace HRw:=ag (HRw.out.keep b1);replace HZ:=ag (HZ.out.kept b1)
    replace CX:=ag (CX.out.kept b1);replace C4:=ag (C4.out.kept b1);replace HB:=ag (bg HB.out b1);obtain⟨gl,hgl⟩:∃gl,Hid (gl=wr.heap.size):=⟨_,rfl⟩
    have hgB:B0<=gl:=by rw[hgl.out];exact h0B.out
    have z1:=b1.size;rw[<-hgl.out]at CLb;have CRq:=ag (CR.out q so sc gl W1 hlt HS.out CLb.out);go_wp2_with fail;rw[<-hW1,<-hgl.out];clear b1 hW1 CR hgl;refine CRq.out.mono ?_;rintro e w2 ⟨bo,dap,rfl,x1,x2,hb⟩
    replace HS:=ag (HS.out.keep hb);replace HRw:=ag (HRw.out.keep hb);replace HZ:=ag (HZ.out.kept hb);replace CX:=ag (CX.out.kept hb);replace C4:=ag (C4.out.kept hb);replace CLb:=ag (CLb.out.kept hb)
    replace HB:=ag (bg HB.out hb);have z2:=hb.size;have CVq:=ag (CV.out q bo dap w2 HB.out x1 x2);clear hb CRq CV x1 x2;go_wp2_with fail;refine CVq.out.mono ?_;rintro e w3 ⟨cs,rfl,hki,hb,nf⟩
    replace HS:=ag (HS.out.keep hb);replace HRw:=ag (HRw.out.keep hb);replace HZ:=ag (HZ.out.kept hb);replace CX:=ag (CX.out.kept hb);replace C4:=ag (C4.out.kept hb);replace CLb:=ag (CLb.out.kept hb)
    replace HB:=ag (bg HB.out hb);have z3:=hb.size;have hB2:B0<=w2.heap.size:=Nat.le_trans h0B.out (Nat.le_trans z1 z2);have NF:Hid (dU B0 cs):=⟨nf.1.mono hB2,nf.2.mono hB2⟩
    have HL:=ag hki.arg.len;have H1:=ag hki.arg.one;have H22:=ag (kR.trans hki.arg.nine);have HK:=ag hki;have hgl3:=CLb.out.lt;clear hb CVq nf hki;go_wp2_with (refine oF mp ?_)
    intro w4 B5 hb4 hs4;try simp only[Act.put,ah,List.set]
    have HB4:=ag hb4;clear hb4;go_wp2_with (refine aJ w3.heap.size zv cs rfl rfl B5 H22.out HL.out H1.out ?_);intro w5 B6 hO5;try simp only[Act.put,ah,List.set]
    have b5:Below w3.heap.size w3 w5:=HB4.out.trans (hO5.below (Nat.le_refl _));replace HS:=ag (HS.out.keep b5);replace HRw:=ag (HRw.out.keep b5);replace HZ:=ag (HZ.out.kept b5)
    replace CX:=ag (CX.out.kept b5);replace C4:=ag (C4.out.kept b5);replace CLb:=ag (CLb.out.kept b5);replace HK:=ag (HK.out.keep b5);replace HB:=ag (bg HB.out b5);have z5:=b5.size
    have B6h:=ag B6;have ez:bP (8-css.length)=zv++bP (7-q):=by rw[hcl.out,show 8-q=7-q+1 by omega];rfl
    have ep:Hid (css.flatten.length=q*22):=by show _=_;rw[pS css HRw.out.l22,hcl.out]
    have cL:=HRw.out.cel;rw[ez]at cL;have x2:=CX.out.cell 2 rfl;have l0:=CLb.out.cell 0 rfl;clear b5 HB4 hO5 B5 hs4 ez
    go_wp2_with (first | refine ca w3.heap.size cs (by rfl) rfl B6 underlying63 HL.out ?_ | refine xA gL (q*22) css.flatten zv (bP (7-q)) cs ep.out rfl rfl cL H22.out HL.out H1.out ?_);intro w6 c6 o6
    try simp only[Act.put,ah,List.set]
    have G6:=(HG.out.keep HB.out).only o6 (by omega);have R6:=ag (HRw.out.push hLB (by rw[hcl.out];exact hlt) (by rw[hcl.out];exact HK.out) NF.out (by rw[hcl.out];exact c6) o6 G6)
    have lS:Hid ((css++[cs]).length=q+1):=by show _=_;rw[List.length_append,hcl.out];rfl
    have S6:Hid (Bd w6 so (Mx.sy t q)):=vW HS.out (fun a ha h0=>by rw[Mx.length_sy]at h0;rcases HAp.out a ha h0 with e | e<;>omega) o6;have Z6:=ag (o6.cel HZ.out (by omega))
    have X6:=ag (o6.cel CX.out (by omega));have F6:=ag (o6.cel C4.out (by omega));have L6:=ag (o6.cel CLb.out (by omega));have HB6:=ag (HB.out.trans (o6.below (by omega)))
    have z6:w6.heap.size=w5.heap.size:=o6.size;have z6':Hid (w6.heap.size=w5.heap.size):=z6;have h06:Hid (B0<=w6.heap.size):=by show B0<=_;omega
    clear c6 o6 cL B6 B6h HRw HS HZ CX C4 CLb HB HK x2 l0 z6 G6;have CPq:=ag (fun w0 h1 h2=>CP.out q so sc gl w0 hlt h1 h2);clear CP;go_wp2
    refine bn [11] (fun w'=>aa w' gx [.int .i64 k,.int .i64 (n:Int),.slice (some ⟨gL,0,none⟩) 8 8,.slice (some ⟨gz,0,none⟩) 8 8] 27/\aa w' gl [.int .i64 q] 3/\Bd w' so (Mx.sy t q)/\dG w' gL B0 (fun l=>kB k (t.length:Int) (aB (Mx.rw_ t l))) (css++[cs])/\aa w' gz (vK .i64 (zq t q)) 3/\aa w' w.heap.size [.int .i64 0,.int .i64 0,.slice none 0 0,.slice none 0 0] 27/\B0<=w'.heap.size/\Below w.heap.size w w') (by kernel_rfl) ?_
    have hS:(fun w'=>aa w' gx [.int .i64 k,.int .i64 (n:Int),.slice (some ⟨gL,0,none⟩) 8 8,.slice (some ⟨gz,0,none⟩) 8 8] 27/\aa w' gl [.int .i64 q] 3/\Bd w' so (Mx.sy t q)/\dG w' gL B0 (fun l=>kB k (t.length:Int) (aB (Mx.rw_ t l))) (css++[cs])/\aa w' gz (vK .i64 (zq t q)) 3/\aa w' w.heap.size [.int .i64 0,.int .i64 0,.slice none 0 0,.slice none 0 0] 27/\B0<=w'.heap.size/\Below w.heap.size w w') w6.drew:=⟨X6.out.drew,L6.out.drew,S6.out.keep ((Below.refl _ _).drew),R6.out.keep ((Below.refl _ _).drew),Z6.out.drew,F6.out.drew,h06.out,HB6.out.drew⟩
    clear X6 L6 S6 R6 Z6 F6 h06 HB6 z6';generalize w6.drew=V at *;refine aF 0 hS rfl (fun w0 h0=>by have y3:=h0.1.cell 3 rfl;have l0:=h0.2.1.cell 0 rfl;go_simp;try with_reducible rfl) ?_
    refine aF 1 hS rfl (fun w0 h0=>by have y3:=h0.1.cell 3 rfl;have l0:=h0.2.1.cell 0 rfl;go_simp;try with_reducible rfl) ?_
    refine aF 2 hS rfl (fun w0 h0=>by have y3:=h0.1.cell 3 rfl;have l0:=h0.2.1.cell 0 rfl;go_simp;try with_reducible rfl) ?_;refine aK 3 hS ?_;refine aK 4 hS ?_;refine aO 5 ?_;intro K hK;go_simp
    refine(CPq.out _ hS.2.2.1 hS.2.1).mono ?_;rintro e w7 ⟨ao2,cap2,rfl,hbd,hfr,hb⟩
    have hfr2:Hid (∀a,ao2=some a->0<t.length->a.block<w.heap.size\/B0<=a.block):=fun a ha _=>.inr (Nat.le_trans hS.2.2.2.2.2.2.1 (hfr a ha));have NB:=ag hbd
    replace hS:=And.intro (hS.1.kept hb) (And.intro (hS.2.1.kept hb) (And.intro (hS.2.2.1.keep hb) (And.intro (hS.2.2.2.1.keep hb) (And.intro (hS.2.2.2.2.1.kept hb) (And.intro (hS.2.2.2.2.2.1.kept hb) (And.intro (Nat.le_trans hS.2.2.2.2.2.2.1 hb.size) (hS.2.2.2.2.2.2.2.trans (hb.mono hS.2.2.2.2.2.2.2.size))))))))
    clear hb hfr hbd CPq;refine hK.out _ _ (fun _=>hS) ?_;clear hK K;try simp only[Act.put,aw,ar,an,ah,aj,ai]
    refine aK 6 hS ?_;refine aK 7 hS ?_;refine aK 8 hS ?_;refine aK 9 hS ?_;refine aK 10 hS ?_;refine aO 11 ?_;intro K hK
    have hz0:=hS.2.2.2.2.1.cell q (fY _ _ q (by rw[nK];exact hlt));have fz0:=hS.2.2.2.2.1.frozen q;go_simp;refine hK.out _ _ (fun h=>absurd (by decide) h) ?_;clear hK K
    try simp only[Act.put,aw,ar,an,ah,aj,ai]
    refine az.done (by kernel_rfl) ?_ _;obtain⟨s1,s2,s3,s4,s5,s6,s7,s8⟩:=hS;obtain⟨zz,hzz⟩:∃zz,Hid (zz=Mx.zs t q):=⟨_,rfl⟩;rw[<-hzz.out]
    have o7:aC gz w7 (w7.setCell ⟨gz,q,none⟩ (.int .i64 (zz:Nat))):=(aC.refl _ _).set q _
    have Z7:Hid (aa (w7.setCell ⟨gz,q,none⟩ (.int .i64 (zz:Nat))) gz (vK .i64 (zq t (q+1))) 3):=by
     have:=s5.set q (.int .i64 (zz:Nat));rw[mQ,hzz.out,wt t q hlt,<-hzz.out]at this;exact this
    have G7:=(HG.out.keep s8).only o7 (by omega);have R7:=ag (s4.only (fun e=>o4 e.symm) hzB s5 (px _ (by decide) _) o7 G7)
    have S7:Hid (Bd (w7.setCell ⟨gz,q,none⟩ (.int .i64 (zz:Nat))) ao2 (Mx.sy t (q+1))):=vW NB.out (fun a ha h0=>by rw[Mx.length_sy]at h0;rcases hfr2.out a ha h0 with e | e<;>omega) o7
    have X7:=ag (o7.cel s1 (by omega));have F7:=ag (o7.cel s6 (by omega));have h07:Hid (B0<=(w7.setCell ⟨gz,q,none⟩ (.int .i64 (zz:Nat))).heap.size):=by show B0<=_;rw[o7.size];exact s7
    have HB7:=ag (s8.trans (o7.below (by omega)));clear s1 s2 s3 s4 s5 s6 s7 s8 o7 G7 hz0 fz0 NB;go_wp2
    exact⟨⟨q+1,ao2,cap2,css++[cs],by omega,by go_num,rfl,lS,S7,hfr2,R7,Z7,X7,F7,h07,HB7⟩,by simp only[intOf];omega⟩
   .obtain rfl:q=8:=by omega
    have x0:=CX.out.cell 0 rfl;have x1:=CX.out.cell 1 rfl;have x2:=CX.out.cell 2 rfl;have x3:=CX.out.cell 3 rfl;have c4:=C4.out;clear CR CV CP
    go_wp2_with (refine aJ w.heap.size [.int .i64 0,.int .i64 0,.slice none 0 0,.slice none 0 0] [.int .i64 k,.int .i64 (n:Int),.slice (some ⟨gL,0,none⟩) 8 8,.slice (some ⟨gz,0,none⟩) 8 8] rfl rfl c4 rfl fd (by simp[Value.oneCell']) ?_)
    intro w6 c6 o6;try simp only[Act.put,ah,List.set]
    have G6:=(HG.out.keep HB.out).only o6 (by omega);have R6:=HRw.out.only (g0:=w.heap.size) (by omega) (by omega) C4.out (fun v hv n e=>by subst e;simp at hv) o6 G6;have Z6:=o6.cel HZ.out (by omega)
    rw[wu]at Z6;have HC:=ag c6
    have HM:=ag (show MX w6 [.int .i64 k,.int .i64 (n:Int),.slice (some ⟨gL,0,none⟩) 8 8,.slice (some ⟨gz,0,none⟩) 8 8] k t from⟨⟨_,_,_,_,by rw[hnn.out],R6.lv (mA k t) hcl.out (fK k t) (fun l hl=>kK k t hl),tB Z6⟩,hk,hn,hB,G6⟩)
    have HB6:=ag (HB.out.trans (o6.below (Nat.le_refl _)));clear c6 o6 C4 HB HRw HZ CX x0 x1 x2 x3 c4 R6 Z6 HS HAp h0B;go_wp2
    (try simp only[Exit.inBlock,Exit.then]);exact bodyPost_ret (a_ rfl w.heap.size _ rfl HC.out underlying27 fd) rfl ⟨_,rfl,HM.out,HB6.out⟩
theorem CN(k:Int)(ao:Option Addr)(t:List Nat)(cap:Nat)(w:World)(hk:1<=k/\k<=3)(hx:Bd w ao t)(hB:fV t)(hn:t.length<=3000)(G:GV w):
  Calls prog 8 #[.int .i64 k,.slice ao t.length cap] w fun e w'=>∃cs,e=.returned (.tuple #[.agg cs.toArray,.int .i64 0])/\MX w' cs k t/\Below w.heap.size w w':=tQ k (wY k (by unfold aD;omega)) ao t cap w hk hx hB hn G
def gT(n i:Nat):List Nat:=(List.range n).map fun j=>if j<i then j else 0
theorem nM(n i:Nat):(gT n i).length=n:=by simp[gT]
theorem uJ(n i j:Nat)(h:j<n):gt (gT n i) j=if j<i then j else 0:=by
 unfold gT gt;rw[List.getD_eq_getElem?_getD,List.getElem?_map,List.getElem?_range h];rfl
theorem Cj(n:Nat):gT n 0=List.replicate n 0:=by
 unfold gT;rw[show(fun j=>if j<0 then j else 0)=fun _=>0 by funext j;simp,List.map_const'];simp
theorem Cl(n:Nat):gT n n=List.range n:=by
 unfold gT;refine(List.map_congr_left fun j hj=>?_).trans (List.map_id _);rw[if_pos (List.mem_range.1 hj)];rfl
theorem Ck(n i:Nat)(h:i<n):(gT n i).set i i=gT n (i+1):=by
 refine list_ext _ _ (by simp[nM]) fun c hc=>?_;rw[List.length_set,nM]at hc;rw[gt_set _ _ _ _ (by rw[nM];exact h),uJ _ _ _ hc,uJ _ _ _ hc];by_cases e:i=c
 .subst e;rw[if_pos rfl,if_pos (by omega)]
 .rw[if_neg e];by_cases d:c<i
  .rw[if_pos d,if_pos (by omega)]
  .rw[if_neg d,if_neg (by omega)]
theorem l_(n:Nat)(w:World)(hn:n<=1048576):
  Calls prog 46 #[.int .i64 n] w fun e w'=>∃g,e=.returned (.slice (some ⟨g,0,none⟩) n n)/\aa w' g (vK .i64 (List.range n)) 3/\w.heap.size<=g/\Below w.heap.size w w':=by
 obtain⟨i0,hi,hz0,hz1,hz2⟩:=info_parts jp;go_enter func46,ntmps46
 go_wp2_with (at_make;refine wpList_make_full _ rfl _ _ 25 rfl w.heap.size 3 i0 (.int .i64 0) 1 underlying25 hi hz0 hz1 .i64 .i64 _ _ n rfl rfl rfl rfl ?b2 ?b3 ?b4 ?_)
 case b2=>rw[hz2];omega
 case b3=>unfold maxLen;omega
 case b4=>simp
 intro w1 hown hgr;have B1:=eO (k:=.i64) hown;have hb1:Below w.heap.size w w1:=(Below.refl _ _).grown hgr (Nat.le_refl _) (fun k h=>by cases h);rw[<-Cj n]at B1;have HL1:=ag B1;have HB1:=ag hb1
 clear hown hgr hb1 hi hz0 hz1 hz2 B1;obtain⟨gl,hgl⟩:∃gl,Hid (gl=w.heap.size):=⟨_,rfl⟩;rw[<-hgl.out]at HL1⊢;go_wp2
 go_loopw [9] (fun vi wr=>∃q:Nat,q<=n/\vi=.int .i64 q/\Hid (aa wr gl (vK .i64 (gT n q)) 3)/\Hid (Below w.heap.size w wr)) (fun vi _=>n-(intOf vi).toNat)
 case atStart=>exact⟨0,Nat.zero_le _,rfl,HL1,HB1⟩
 case round=>
  clear HL1 HB1;obtain⟨q,hq,rfl,HL,HB⟩:=hrel;have hgle:w.heap.size<=gl:=by have:=hgl.out;omega
  by_cases hlt:q<n
  .have hltz:(q:Int)<(n:Int):=by omega
   have n0:=HL.out.cell q (fY _ _ q (by rw[nM];exact hlt));have f0:=HL.out.frozen q;have glt:gl<wr.heap.size:=HL.out.lt
   have HL1:Hid (aa (wr.setCell ⟨gl,q,none⟩ (.int .i64 q)) gl (vK .i64 (gT n (q+1))) 3):=by
    have:=HL.out.set q (.int .i64 q);rw[mQ,Ck n q hlt]at this;exact this
   go_wp2;exact⟨⟨q+1,by omega,rfl,HL1,HB.out.setCell (by show w.heap.size<=gl;omega) _⟩,by simp only[intOf];omega⟩
  .obtain rfl:q=n:=by omega
   go_wp2;go_ret;exact⟨gl,rfl,by rw[<-Cl q];exact HL.out,by omega,HB.out⟩
theorem Cd(t:List Nat)(p l n g3 gx g5:Nat)(w:World)(hp:p<t.length)(hn:n=t.length)(hl:l<8)(hB:fV t)(h3:aa w g3 [.slice (some ⟨gx,0,none⟩) n n] 22)(hx:aa w gx (vK .u8 (Mx.txL t (l+1) 0)) 5)(h5:aa w g5 [.int .i64 l] 3):
  Qq 50 #[.int .i64 p,.pointer (some ⟨g3,0,none⟩),.pointer (some ⟨g5,0,none⟩)] w (.bool (Mx.tb l (gt t p))):=by
 have hpz:(p:Int)<(n:Int):=by omega
 have hg:=Mx.gt_txL (t:=t) l p hp
 have C:Hid (∀w0,Qx 25 #[.int .u8 (Mx.top (l+1) (gt t p):Nat),.int .i64 l] w0 (.bool (Mx.tb l (gt t p)))):=fun w0=>by
  have:=nF (Mx.top (l+1) (gt t p)) l (Mx.top_lt (hB p)) hl w0;rw[Mx.top_tb (hB p) hl]at this;exact this
 have HX:=ag (fun w0 (h:aa w0 gx (vK .u8 (Mx.txL t (l+1) 0)) 5)=>h.cell p (fY _ _ p (by rw[Mx.length_txL];exact hp)));rw[hg]at HX;have tl:=Mx.top_lt (l:=l+1) (hB p);generalize Mx.tb l (gt t p)=B at *
 generalize Mx.top (l+1) (gt t p)=TT at *;clear hg;go_enter func50,ntmps50;go_wp2
 refine bn [] (fun w'=>aa w' g3 [.slice (some ⟨gx,0,none⟩) n n] 22/\aa w' gx (vK .u8 (Mx.txL t (l+1) 0)) 5/\aa w' g5 [.int .i64 l] 3/\Below w.heap.size w w') (by kernel_rfl) ?_
 have hS:(fun w'=>aa w' g3 [.slice (some ⟨gx,0,none⟩) n n] 22/\aa w' gx (vK .u8 (Mx.txL t (l+1) 0)) 5/\aa w' g5 [.int .i64 l] 3/\Below w.heap.size w w') w.drew:=⟨h3.drew,hx.drew,h5.drew,(Below.refl _ _).drew⟩
 clear h3 hx h5;generalize w.drew=V at *;refine aF 0 hS rfl (fun w0 h0=>by have q0:=h0.1.cell 0 rfl;have q1:=HX.out w0 h0.2.1;have q2:=h0.2.2.1.cell 0 rfl;go_simp;try with_reducible rfl) ?_
 refine aK 1 hS ?_;refine aK 2 hS ?_;refine aF 3 hS rfl (fun w0 h0=>by have q0:=h0.1.cell 0 rfl;have q1:=HX.out w0 h0.2.1;have q2:=h0.2.2.1.cell 0 rfl;go_simp;try with_reducible rfl) ?_
 refine aF 4 hS rfl (fun w0 h0=>by have q0:=h0.1.cell 0 rfl;have q1:=HX.out w0 h0.2.1;have q2:=h0.2.2.1.cell 0 rfl;go_simp;try with_reducible rfl) ?_;refine aO 5 ?_;intro K hK;go_simp;refine mr (C.out _) fun w2 h2=>?_;rw[h2];clear h2;refine hK.out _ _ (fun _=>hS) ?_;clear hK K;try simp only[Act.put,aw,ar,an,ah,aj,ai]
 refine aK 6 hS ?_;refine az.done (by kernel_rfl) ?_ _;have HB:=ag hS.2.2.2;clear hS;go_wp2;go_ret;exact⟨rfl,HB.out⟩
theorem Cm(lo:Option Addr)(l:List Nat)(lc g0 g1:Nat)(f:Nat->Bool)(w:World)(hl:Nd w lo (mI l))(hn:l.length<=1048576)
  (HC:Hid (∀x w0,x∈l->Below w.heap.size w w0->Qq 50 #[.int .i64 (x:Nat),.pointer (some ⟨g0,0,none⟩),.pointer (some ⟨g1,0,none⟩)] w0 (.bool (f x)))):
  Calls prog 49 #[.slice lo l.length lc,.func (.func 50) #[] #[.pointer (some ⟨g0,0,none⟩),.pointer (some ⟨g1,0,none⟩)]] w fun e w'=>∃ao n cap,e=.returned (.tuple #[.slice ao n cap,.int .i64 ((fl f false l l.length).length:Nat)])/\n=(Mx.pt f l).length/\w'.ownsRow w.heap.size 3 1 (.slice ao n cap) n (vK .i64 (Mx.pt f l))/\Below w.heap.size w w':=by
 obtain⟨i0,hi,hz0,hz1,hz2⟩:=info_parts jp;have HN:=ag hl;clear hl;go_enter func49,ntmps49;go_wp2
 go_loopw [6,7,12] (fun vo vn vi wr=>∃q:Nat,q<=l.length/\vi=.int .i64 q/\Hid (PE 3 .i64 wr w.heap.size f l q vo vn)/\Hid (Below w.heap.size w wr)) (fun _ _ vi _=>l.length-(intOf vi).toNat)
 case atStart=>exact⟨0,Nat.zero_le _,rfl,ag ⟨World.ownsRow_nil _ _ _ _,World.ownsRow_nil _ _ _ _,fun k h=>by cases h⟩,ag (Below.refl _ _)⟩
 case round=>
  obtain⟨q,hq,rfl,HP,HB⟩:=hrel;by_cases hlt:q<l.length
  .have hltz:(q:Int)<(l.length:Int):=by omega
   obtain⟨b,off,rfl,hlb,hc⟩:=(HN.out.keep HB.out) (by rw[dh];omega);have a0:=hc q (by rw[dh];exact hlt);rw[ip l q hlt]at a0
   have hmem:gt l q∈l:=by unfold gt;rw[List.getD_eq_getElem?_getD,List.getElem?_eq_getElem hlt];exact List.getElem_mem hlt
   obtain⟨p,hp⟩:∃p,Hid (p=gt l q):=⟨_,rfl⟩;rw[<-hp.out]at a0 hmem;have H:=ag (HC.out p wr hmem HB.out);have zb:=HB.out.size;clear hc;go_wp2_with fail;refine H.out.mono ?_;rintro e w5 ⟨rfl,hb⟩
   have HP5:=ag (HP.out.keep hb);have HB5:=ag (bg HB.out hb);have z5:=hb.size;obtain⟨BB,hBB⟩:∃BB,Hid (f p=BB):=⟨_,rfl⟩;rw[hBB.out];clear hb HP HB H a0
   rcases(show BB=true\/BB=false by cases BB;exact .inr rfl;exact .inl rfl)with rfl | rfl
   .have HO:=ag HP5.out.o2
    go_wp2_with (at_builtin;refine Ag.wpList_append (by rfl) _ _ _ (by rfl) w.heap.size 3 i0 (.int .i64 0) 1 8 underlying25 hi hz0 hz1 hz2 rfl (by decide) u7 (fl f true l q).length (vK .i64 (fl f true l q)) (by rfl) (HO.out.alloc _) ⟨w5.heap.size,0,none⟩ 1 1 [.int .i64 (p:Nat)] (by rfl) rfl (by decide) ?c1 ?c2 ?c3 ?c4 ?c5 ?_)
    case c1=>
     intro j u hj;have:=(aa.new w5 [.int .i64 (p:Nat)] 3).cell j hj;match j,hj with
     | 0,_=>exact this
    case c2=>intro u hu;simp at hu;subst hu;rfl
    case c3=>have:=dY f true l q;unfold maxLen;omega
    case c4=>have:=dY f true l q;omega
    case c5=>simp;omega
    intro g8 cap8 w8 own8 hb8 hloc8 hlt8 hblk8 hs8;have hA:=below_alloc w5 (.cells #[.int .i64 (p:Nat)] 3);have HB8:Hid (Below w.heap.size w w8):=(bg HB5.out hA).trans (hb8.mono (by omega))
    have HP8:=ag (HP5.out.onn (g:=g8) (cap:=cap8) hlt hA own8 (fun k hk hn=>hblk8 k (by simpa using hk) hn) (by simpa using hloc8) hp.out hBB.out);clear own8 hb8 hloc8 hlt8 hblk8 hs8 hA HB5 HP5 HO hBB
    try simp only[Act.put,ah,List.set]
    go_wp2;exact⟨⟨q+1,by omega,by go_num,HP8,HB8⟩,by simp only[intOf];omega⟩
   .have HO:=ag HP5.out.o1
    go_wp2_with (at_builtin;refine Ag.wpList_append (by rfl) _ _ _ (by rfl) w.heap.size 3 i0 (.int .i64 0) 1 8 underlying25 hi hz0 hz1 hz2 rfl (by decide) u6 (fl f false l q).length (vK .i64 (fl f false l q)) (by rfl) (HO.out.alloc _) ⟨w5.heap.size,0,none⟩ 1 1 [.int .i64 (p:Nat)] (by rfl) rfl (by decide) ?c1 ?c2 ?c3 ?c4 ?c5 ?_)
    case c1=>
     intro j u hj;have:=(aa.new w5 [.int .i64 (p:Nat)] 3).cell j hj;match j,hj with
     | 0,_=>exact this
    case c2=>intro u hu;simp at hu;subst hu;rfl
    case c3=>have:=dY f false l q;unfold maxLen;omega
    case c4=>have:=dY f false l q;omega
    case c5=>simp;omega
    intro g8 cap8 w8 own8 hb8 hloc8 hlt8 hblk8 hs8;have hA:=below_alloc w5 (.cells #[.int .i64 (p:Nat)] 3);have HB8:Hid (Below w.heap.size w w8):=(bg HB5.out hA).trans (hb8.mono (by omega))
    have HP8:=ag (HP5.out.offf (g:=g8) (cap:=cap8) hlt hA own8 (fun k hk hn=>hblk8 k (by simpa using hk) hn) (by simpa using hloc8) hp.out hBB.out);clear own8 hb8 hloc8 hlt8 hblk8 hs8 hA HB5 HP5 HO hBB
    try simp only[Act.put,ah,List.set]
    go_wp2;exact⟨⟨q+1,by omega,by go_num,HP8,HB8⟩,by simp only[intOf];omega⟩
  .obtain rfl:q=l.length:=by omega
   have HO1:=ag HP.out.o1;have l1:=dY f false l l.length;have l2:=dY f true l l.length;obtain⟨xa,c,rfl,hsrc⟩:=kG HP.out.o2 (iT _ _).symm
   obtain⟨ya,yc,rfl,_⟩:=kG HP.out.o1 (iT _ _).symm;have HS:=ag hsrc;have zb:=HB.out.size;clear hsrc HP
   go_wp2_with (at_builtin;refine pB (by rfl) _ _ _ (by rfl) w.heap.size 3 i0 (.int .i64 0) 1 8 underlying25 hi hz0 hz1 hz2 rfl (by decide) _ (fl f false l l.length).length (vK .i64 (fl f false l l.length)) (by rfl) HO1.out xa (fl f true l l.length).length c (vK .i64 (fl f true l l.length)) (by rfl) (by rw[iT,Nat.mul_one]) HS.out ?c2 ?c3 ?c4 ?c5 ?_)
   case c2=>intro u hu;unfold vK at hu;obtain⟨_,_,rfl⟩:=List.mem_map.1 hu;rfl
   case c3=>unfold maxLen;omega
   case c4=>omega
   case c5=>omega
   intro ao cap w8 own8 hb8 _ _;try simp only[Act.put,ah,List.set]
   have eP:Mx.pt f l=fl f false l l.length++fl f true l l.length:=by unfold Mx.pt fl;rw[List.take_length]
   have HF:Hid ((fl f false l l.length).length+(fl f true l l.length).length=(Mx.pt f l).length/\w8.ownsRow w.heap.size 3 1 (.slice ao ((fl f false l l.length).length+(fl f true l l.length).length) cap) ((fl f false l l.length).length+(fl f true l l.length).length) (vK .i64 (Mx.pt f l))/\Below w.heap.size w w8):=by
    refine⟨by rw[eP,List.length_append],?_,HB.out.trans (hb8.mono (Nat.le_refl _))⟩;rw[eP,gF];exact own8
   clear own8 hb8 HO1 HS HB eP;go_wp2;go_ret2;exact⟨ao,_,cap,rfl,HF.out⟩
theorem Ca{w:World}{ao:Option Addr}{l:List Int}{g:Nat}{b:List Nat}(h:Nd w ao l)(hc:aa w g (vK .u8 b) 5)(h0:0<l.length):∀a,ao=some a->a.block≠g:=fun a ha e=>by
 obtain⟨k,off,e1,_,hcc⟩:=h h0;rw[e1]at ha;cases ha;have h1:=hcc 0 h0;dsimp only at e;subst e;rw[Nat.add_zero]at h1;unfold World.cell? at h1
 rw[show w.heap[({ block:=k,off:=off,spot:=none }:Addr).block]?=_ from hc]at h1;simp only[List.getElem?_toArray]at h1;unfold vK at h1;rw[List.getElem?_map]at h1;cases h2:b[off]? with
 | none=>rw[h2]at h1;simp at h1
 | some y=>rw[h2]at h1;simp at h1
theorem BZ{w w':World}{ao:Option Addr}{l:List Int}{g:Nat}{b:List Nat}(h:Nd w ao l)(hc:aa w g (vK .u8 b) 5)(hO:aC g w w'):Nd w' ao l:=hO.nd2 h fun h0=>Ca h hc h0
theorem bd_vK{w:World}{g:Nat}{t:List Nat}(h:aa w g (vK .u8 t) 5):Bd w (some ⟨g,0,none⟩) t:=fun _=>⟨g,0,rfl,h.lt,fun i hi=>by
 rw[Nat.zero_add]
 exact h.cell i (fY _ t i hi)⟩
theorem lZ{w:World}{base n c:Nat}{ao:Option Addr}{l:List Nat}(h:w.ownsRow base 3 1 (.slice ao n c) n (vK .i64 l))(hn:n=l.length):Nd w ao (mI l):=fun h0=>by
 have h':=h;obtain⟨_,⟨e,h1⟩ | ⟨g,cap,cur,e,e2,hh,_⟩⟩:=h
 .injection e with e1 e2 e3
  rw[dh]at h0;omega
 .simp only[Value.slice.injEq]at e;obtain⟨rfl,_,rfl⟩:=e;refine⟨g,0,rfl,(Array.getElem?_eq_some_iff.1 hh).1,fun i hi=>?_⟩;rw[dh]at hi;rw[Nat.zero_add,ip l i hi]
  exact(Ag.owns_cells h').2 i _ (fY _ l i hi)
def QT(w1:World)(n:Nat)(v3 v4:Value)(wx:World):Prop:=∃g3 gx gp,v3=.pointer (some ⟨g3,0,none⟩)/\v4=.slice (some ⟨gp,0,none⟩) n n/\(w1.heap.size<=g3/\w1.heap.size<=gx/\w1.heap.size<=gp/\g3≠gx/\g3≠gp/\gx≠gp)/\aa wx g3 [.slice (some ⟨gx,0,none⟩) n n] 22/\aa wx gx (vK .u8 (List.replicate n 0)) 5/\aa wx gp (vK .i64 (List.range n)) 3/\Below w1.heap.size w1 wx
theorem Ce(cs:List Value)(k:Int)(VV:VM k)(t:List Nat)(w:World)(h:MX w cs k t):
  Calls prog 22 #[.agg cs.toArray] w fun e w'=>∃ao cap,e=.returned (.slice ao t.length cap)/\Bd w' ao t/\Below w.heap.size w w':=by
 have hB:=h.by_;obtain⟨i0,hi,hz0,hz1,hz2⟩:=info_parts ur;have HMX:=ag h;have hkn:=h.kn;have hle:=h.le;obtain⟨⟨lo,lc,zo,zc,rfl,_,_⟩,_,_,_,_⟩:=h
 obtain⟨W,hW⟩:∃W,W=w.alloc (.cells #[.int .i64 k,.int .i64 (t.length:Int),.slice lo 8 lc,.slice zo 8 zc] 27):=⟨_,rfl⟩;have bW:=ba hW
 have B1:=ag (show aa W w.heap.size [.int .i64 k,.int .i64 (t.length:Int),.slice lo 8 lc,.slice zo 8 zc] 27 by rw[hW];exact aa.new w _ _);have HB:=ag bW;have HM1:=ag (HMX.out.keep bW);clear bW HMX
 have C0:=ag (HM1.out.check);obtain⟨n,hnn⟩:∃n,Hid (n=t.length):=⟨_,rfl⟩;have hn2:n<=3000:=by rw[hnn.out];exact hle
 rw[<-hnn.out]at C0 B1 HM1 hW⊢;go_enter func22,ntmps22;go_wp2_with fail;rw[<-hW];refine C0.out.mono ?_;rintro e w1 ⟨rfl,hb⟩;have K1:=ag (B1.out.kept hb);have HM:=ag (HM1.out.keep hb)
 have HBa:=ag (bg HB.out hb);have l1:=K1.out.lt;clear hb C0 B1 HM1 HB hW;go_upto_region 3 with fail
 go_cut [3,4] (fun v3 v4 wx=>QT w1 n v3 v4 wx)
 case first=>
  refine bn [] (fun w'=>aa w' w.heap.size [.int .i64 k,.int .i64 (n:Int),.slice lo 8 lc,.slice zo 8 zc] 27) (by kernel_rfl) ?_
  have hSY:=K1.out.drew;have HBc:=ag ((Below.refl w1.heap.size w1).drew);have sY:w1.heap.size<=w1.drew.heap.size:=Nat.le_refl _;clear HM HBa;generalize w1.drew=Y at *;refine aK 0 hSY ?_
  refine aF 1 hSY rfl (fun w0 h0=>by have y1:=h0.cell 1 rfl;go_simp;try with_reducible rfl) ?_;refine aK 3 hSY ?_
  refine aF 4 hSY rfl (fun w0 h0=>by have y1:=h0.cell 1 rfl;go_simp;try with_reducible rfl) ?_;refine az.threeM 2 5 6 (by kernel_rfl) rfl rfl rfl ?_ ?_ ?_
  .intro K hK;refine cZ Y.heap.size 5 i0 (.int .u8 0) 1 underlying22 hi hz0 hz1 n rfl rfl (by rw[hz2];omega) (by unfold maxLen;omega) (Nat.le_refl _) ?_;intro YM hown hgr
   have CM:=ag (eO (k:=.u8) (n:=n) (by rw[Nat.mul_one]at hown;exact hown));have bYM:Below Y.heap.size Y YM:=(Below.refl _ _).grown hgr (Nat.le_refl _) (fun k h=>by cases h);clear hown hgr
   have hSYM:aa YM w.heap.size [.int .i64 k,.int .i64 (n:Int),.slice lo 8 lc,.slice zo 8 zc] 27:=hSY.kept bYM;refine hK.out _ _ (fun _=>hSYM) ?_;clear hK K;try simp only[Act.put,aw,ar,an,ah,aj,ai]
   replace HBc:=ag (bg HBc.out bYM);have sYM:=CM.out.lt;clear bYM hSY;obtain⟨gM,hgM⟩:∃g,Hid (g=Y.heap.size):=⟨_,rfl⟩;rw[<-hgM.out]at CM sYM⊢
   have loM:Y.heap.size<=gM:=by rw[hgM.out];exact Nat.le_refl _
   clear hgM;refine az.two 5 6 (by kernel_rfl) rfl rfl ?_ ?_
   .intro K hK;go_simp;refine(l_ n YM (by omega)).mono ?_;rintro e YMP ⟨gP,rfl,hcp,loP,bYMP⟩;have CP:=ag hcp;clear hcp
    have hSYMP:aa YMP w.heap.size [.int .i64 k,.int .i64 (n:Int),.slice lo 8 lc,.slice zo 8 zc] 27:=hSYM.kept bYMP;refine hK.out _ _ (fun _=>hSYMP) ?_;clear hK K;try simp only[Act.put,aw,ar,an,ah,aj,ai]
    replace CM:=ag (CM.out.kept bYMP);replace HBc:=ag (bg HBc.out bYMP);have sYMP:=CP.out.lt;clear bYMP hSYM;refine aO 6 ?_;intro K hK;go_simp
    obtain⟨YMPX,hYMPX⟩:∃YMPX,YMPX=YMP.alloc (.cells #[.slice none 0 0] 22):=⟨_,rfl⟩;have bYMPX:Below YMP.heap.size YMP YMPX:=by rw[hYMPX];exact below_alloc _ _
    have CX:=ag (show aa YMPX YMP.heap.size [.slice none 0 0] 22 by rw[hYMPX];exact aa.new _ _ _)
    have hSYMPX:aa YMPX w.heap.size [.int .i64 k,.int .i64 (n:Int),.slice lo 8 lc,.slice zo 8 zc] 27:=hSYMP.kept bYMPX;rw[<-hYMPX];clear hYMPX;refine hK.out _ _ (fun _=>hSYMPX) ?_;clear hK K
    try simp only[Act.put,aw,ar,an,ah,aj,ai]
    replace CM:=ag (CM.out.kept bYMPX);replace CP:=ag (CP.out.kept bYMPX);replace HBc:=ag (bg HBc.out bYMPX);have sYMPX:=CX.out.lt;clear bYMPX hSYMP
    obtain⟨gX,hgX⟩:∃g,Hid (g=YMP.heap.size):=⟨_,rfl⟩;rw[<-hgX.out]at CX sYMPX⊢;have loX:YMP.heap.size<=gX:=by rw[hgX.out];exact Nat.le_refl _
    clear hgX;refine aO 7 ?_;intro K hK;have x0:=CX.out.cell 0 rfl;have x1:=CX.out.frozen 0;go_simp;have oE:aC gX YMPX (YMPX.setCell ⟨gX,0,none⟩ (.slice (some ⟨gM,0,none⟩) n n)):=(aC.refl _ _).set 0 _
    have CE:=CX.out.set 0 (.slice (some ⟨gM,0,none⟩) n n);simp only[List.set_cons_zero]at CE
    have hS:aa (YMPX.setCell ⟨gX,0,none⟩ (.slice (some ⟨gM,0,none⟩) n n)) w.heap.size [.int .i64 k,.int .i64 (n:Int),.slice lo 8 lc,.slice zo 8 zc] 27:=oE.cel hSYMPX (by omega)
    have hQ:Hid (QT w1 n (.pointer (some ⟨gX,0,none⟩)) (.slice (some ⟨gP,0,none⟩) n n) (YMPX.setCell ⟨gX,0,none⟩ (.slice (some ⟨gM,0,none⟩) n n))):=⟨gX,gM,gP,rfl,rfl,⟨by omega,by omega,by omega,by omega,by omega,by omega⟩,CE,oE.cel CM.out (by omega),oE.cel CP.out (by omega),HBc.out.trans (oE.below (by omega))⟩
    clear CE oE CX CM CP HBc x0 x1 hSYMPX;generalize YMPX.setCell ⟨gX,0,none⟩ (.slice (some ⟨gM,0,none⟩) n n)=YE at *;refine hK.out _ _ (fun _=>hS) ?_;clear hK K;try simp only[Act.put,aw,ar,an,ah,aj,ai]
    refine aK 8 hS ?_;refine az.done (by kernel_rfl) ?_ _;clear hS;go_wp2_with fail;go_meet;exact hQ.out
   .intro K hK;go_simp;obtain⟨YMX,hYMX⟩:∃YMX,YMX=YM.alloc (.cells #[.slice none 0 0] 22):=⟨_,rfl⟩;have bYMX:Below YM.heap.size YM YMX:=by rw[hYMX];exact below_alloc _ _
    have CX:=ag (show aa YMX YM.heap.size [.slice none 0 0] 22 by rw[hYMX];exact aa.new _ _ _);have hSYMX:aa YMX w.heap.size [.int .i64 k,.int .i64 (n:Int),.slice lo 8 lc,.slice zo 8 zc] 27:=hSYM.kept bYMX
    rw[<-hYMX];clear hYMX;refine hK.out _ _ (fun _=>hSYMX) ?_;clear hK K;try simp only[Act.put,aw,ar,an,ah,aj,ai]
    replace CM:=ag (CM.out.kept bYMX);replace HBc:=ag (bg HBc.out bYMX);have sYMX:=CX.out.lt;clear bYMX hSYM;obtain⟨gX,hgX⟩:∃g,Hid (g=YM.heap.size):=⟨_,rfl⟩
    rw[<-hgX.out]at CX sYMX⊢;have loX:YM.heap.size<=gX:=by rw[hgX.out];exact Nat.le_refl _
    clear hgX;refine aO 5 ?_;intro K hK;go_simp;refine(l_ n YMX (by omega)).mono ?_;rintro e YMXP ⟨gP,rfl,hcp,loP,bYMXP⟩;have CP:=ag hcp;clear hcp
    have hSYMXP:aa YMXP w.heap.size [.int .i64 k,.int .i64 (n:Int),.slice lo 8 lc,.slice zo 8 zc] 27:=hSYMX.kept bYMXP;refine hK.out _ _ (fun _=>hSYMXP) ?_;clear hK K
    try simp only[Act.put,aw,ar,an,ah,aj,ai]
    replace CM:=ag (CM.out.kept bYMXP);replace CX:=ag (CX.out.kept bYMXP);replace HBc:=ag (bg HBc.out bYMXP);have sYMXP:=CP.out.lt;clear bYMXP hSYMX;refine aO 7 ?_;intro K hK
    have x0:=CX.out.cell 0 rfl;have x1:=CX.out.frozen 0;go_simp;have oE:aC gX YMXP (YMXP.setCell ⟨gX,0,none⟩ (.slice (some ⟨gM,0,none⟩) n n)):=(aC.refl _ _).set 0 _
    have CE:=CX.out.set 0 (.slice (some ⟨gM,0,none⟩) n n);simp only[List.set_cons_zero]at CE
    have hS:aa (YMXP.setCell ⟨gX,0,none⟩ (.slice (some ⟨gM,0,none⟩) n n)) w.heap.size [.int .i64 k,.int .i64 (n:Int),.slice lo 8 lc,.slice zo 8 zc] 27:=oE.cel hSYMXP (by omega)
    have hQ:Hid (QT w1 n (.pointer (some ⟨gX,0,none⟩)) (.slice (some ⟨gP,0,none⟩) n n) (YMXP.setCell ⟨gX,0,none⟩ (.slice (some ⟨gM,0,none⟩) n n))):=⟨gX,gM,gP,rfl,rfl,⟨by omega,by omega,by omega,by omega,by omega,by omega⟩,CE,oE.cel CM.out (by omega),oE.cel CP.out (by omega),HBc.out.trans (oE.below (by omega))⟩
    clear CE oE CX CM CP HBc x0 x1 hSYMXP;generalize YMXP.setCell ⟨gX,0,none⟩ (.slice (some ⟨gM,0,none⟩) n n)=YE at *;refine hK.out _ _ (fun _=>hS) ?_;clear hK K;try simp only[Act.put,aw,ar,an,ah,aj,ai]
    refine aK 8 hS ?_;refine az.done (by kernel_rfl) ?_ _;clear hS;go_wp2_with fail;go_meet;exact hQ.out
  .intro K hK;go_simp;refine(l_ n Y (by omega)).mono ?_;rintro e YP ⟨gP,rfl,hcp,loP,bYP⟩;have CP:=ag hcp;clear hcp
   have hSYP:aa YP w.heap.size [.int .i64 k,.int .i64 (n:Int),.slice lo 8 lc,.slice zo 8 zc] 27:=hSY.kept bYP;refine hK.out _ _ (fun _=>hSYP) ?_;clear hK K;try simp only[Act.put,aw,ar,an,ah,aj,ai]
   replace HBc:=ag (bg HBc.out bYP);have sYP:=CP.out.lt;clear bYP hSY;refine az.two 2 6 (by kernel_rfl) rfl rfl ?_ ?_
   .intro K hK;refine cZ YP.heap.size 5 i0 (.int .u8 0) 1 underlying22 hi hz0 hz1 n rfl rfl (by rw[hz2];omega) (by unfold maxLen;omega) (Nat.le_refl _) ?_;intro YPM hown hgr
    have CM:=ag (eO (k:=.u8) (n:=n) (by rw[Nat.mul_one]at hown;exact hown));have bYPM:Below YP.heap.size YP YPM:=(Below.refl _ _).grown hgr (Nat.le_refl _) (fun k h=>by cases h);clear hown hgr
    have hSYPM:aa YPM w.heap.size [.int .i64 k,.int .i64 (n:Int),.slice lo 8 lc,.slice zo 8 zc] 27:=hSYP.kept bYPM;refine hK.out _ _ (fun _=>hSYPM) ?_;clear hK K;try simp only[Act.put,aw,ar,an,ah,aj,ai]
    replace CP:=ag (CP.out.kept bYPM);replace HBc:=ag (bg HBc.out bYPM);have sYPM:=CM.out.lt;clear bYPM hSYP;obtain⟨gM,hgM⟩:∃g,Hid (g=YP.heap.size):=⟨_,rfl⟩
    rw[<-hgM.out]at CM sYPM⊢;have loM:YP.heap.size<=gM:=by rw[hgM.out];exact Nat.le_refl _
    clear hgM;refine aO 6 ?_;intro K hK;go_simp;obtain⟨YPMX,hYPMX⟩:∃YPMX,YPMX=YPM.alloc (.cells #[.slice none 0 0] 22):=⟨_,rfl⟩;have bYPMX:Below YPM.heap.size YPM YPMX:=by rw[hYPMX];exact below_alloc _ _
    have CX:=ag (show aa YPMX YPM.heap.size [.slice none 0 0] 22 by rw[hYPMX];exact aa.new _ _ _)
    have hSYPMX:aa YPMX w.heap.size [.int .i64 k,.int .i64 (n:Int),.slice lo 8 lc,.slice zo 8 zc] 27:=hSYPM.kept bYPMX;rw[<-hYPMX];clear hYPMX;refine hK.out _ _ (fun _=>hSYPMX) ?_;clear hK K
    try simp only[Act.put,aw,ar,an,ah,aj,ai]
    replace CP:=ag (CP.out.kept bYPMX);replace CM:=ag (CM.out.kept bYPMX);replace HBc:=ag (bg HBc.out bYPMX);have sYPMX:=CX.out.lt;clear bYPMX hSYPM
    obtain⟨gX,hgX⟩:∃g,Hid (g=YPM.heap.size):=⟨_,rfl⟩;rw[<-hgX.out]at CX sYPMX⊢;have loX:YPM.heap.size<=gX:=by rw[hgX.out];exact Nat.le_refl _
    clear hgX;refine aO 7 ?_;intro K hK;have x0:=CX.out.cell 0 rfl;have x1:=CX.out.frozen 0;go_simp;have oE:aC gX YPMX (YPMX.setCell ⟨gX,0,none⟩ (.slice (some ⟨gM,0,none⟩) n n)):=(aC.refl _ _).set 0 _
    have CE:=CX.out.set 0 (.slice (some ⟨gM,0,none⟩) n n);simp only[List.set_cons_zero]at CE
    have hS:aa (YPMX.setCell ⟨gX,0,none⟩ (.slice (some ⟨gM,0,none⟩) n n)) w.heap.size [.int .i64 k,.int .i64 (n:Int),.slice lo 8 lc,.slice zo 8 zc] 27:=oE.cel hSYPMX (by omega)
    have hQ:Hid (QT w1 n (.pointer (some ⟨gX,0,none⟩)) (.slice (some ⟨gP,0,none⟩) n n) (YPMX.setCell ⟨gX,0,none⟩ (.slice (some ⟨gM,0,none⟩) n n))):=⟨gX,gM,gP,rfl,rfl,⟨by omega,by omega,by omega,by omega,by omega,by omega⟩,CE,oE.cel CM.out (by omega),oE.cel CP.out (by omega),HBc.out.trans (oE.below (by omega))⟩
    clear CE oE CX CM CP HBc x0 x1 hSYPMX;generalize YPMX.setCell ⟨gX,0,none⟩ (.slice (some ⟨gM,0,none⟩) n n)=YE at *;refine hK.out _ _ (fun _=>hS) ?_;clear hK K;try simp only[Act.put,aw,ar,an,ah,aj,ai]
    refine aK 8 hS ?_;refine az.done (by kernel_rfl) ?_ _;clear hS;go_wp2_with fail;go_meet;exact hQ.out
   .intro K hK;go_simp;obtain⟨YPX,hYPX⟩:∃YPX,YPX=YP.alloc (.cells #[.slice none 0 0] 22):=⟨_,rfl⟩;have bYPX:Below YP.heap.size YP YPX:=by rw[hYPX];exact below_alloc _ _
    have CX:=ag (show aa YPX YP.heap.size [.slice none 0 0] 22 by rw[hYPX];exact aa.new _ _ _);have hSYPX:aa YPX w.heap.size [.int .i64 k,.int .i64 (n:Int),.slice lo 8 lc,.slice zo 8 zc] 27:=hSYP.kept bYPX
    rw[<-hYPX];clear hYPX;refine hK.out _ _ (fun _=>hSYPX) ?_;clear hK K;try simp only[Act.put,aw,ar,an,ah,aj,ai]
    replace CP:=ag (CP.out.kept bYPX);replace HBc:=ag (bg HBc.out bYPX);have sYPX:=CX.out.lt;clear bYPX hSYP;obtain⟨gX,hgX⟩:∃g,Hid (g=YP.heap.size):=⟨_,rfl⟩
    rw[<-hgX.out]at CX sYPX⊢;have loX:YP.heap.size<=gX:=by rw[hgX.out];exact Nat.le_refl _
    clear hgX;refine aO 2 ?_;intro K hK;refine cZ YPX.heap.size 5 i0 (.int .u8 0) 1 underlying22 hi hz0 hz1 n rfl rfl (by rw[hz2];omega) (by unfold maxLen;omega) (Nat.le_refl _) ?_;intro YPXM hown hgr
    have CM:=ag (eO (k:=.u8) (n:=n) (by rw[Nat.mul_one]at hown;exact hown));have bYPXM:Below YPX.heap.size YPX YPXM:=(Below.refl _ _).grown hgr (Nat.le_refl _) (fun k h=>by cases h);clear hown hgr
    have hSYPXM:aa YPXM w.heap.size [.int .i64 k,.int .i64 (n:Int),.slice lo 8 lc,.slice zo 8 zc] 27:=hSYPX.kept bYPXM;refine hK.out _ _ (fun _=>hSYPXM) ?_;clear hK K
    try simp only[Act.put,aw,ar,an,ah,aj,ai]
    replace CP:=ag (CP.out.kept bYPXM);replace CX:=ag (CX.out.kept bYPXM);replace HBc:=ag (bg HBc.out bYPXM);have sYPXM:=CM.out.lt;clear bYPXM hSYPX
    obtain⟨gM,hgM⟩:∃g,Hid (g=YPX.heap.size):=⟨_,rfl⟩;rw[<-hgM.out]at CM sYPXM⊢;have loM:YPX.heap.size<=gM:=by rw[hgM.out];exact Nat.le_refl _
    clear hgM;refine aO 7 ?_;intro K hK;have x0:=CX.out.cell 0 rfl;have x1:=CX.out.frozen 0;go_simp;have oE:aC gX YPXM (YPXM.setCell ⟨gX,0,none⟩ (.slice (some ⟨gM,0,none⟩) n n)):=(aC.refl _ _).set 0 _
    have CE:=CX.out.set 0 (.slice (some ⟨gM,0,none⟩) n n);simp only[List.set_cons_zero]at CE
    have hS:aa (YPXM.setCell ⟨gX,0,none⟩ (.slice (some ⟨gM,0,none⟩) n n)) w.heap.size [.int .i64 k,.int .i64 (n:Int),.slice lo 8 lc,.slice zo 8 zc] 27:=oE.cel hSYPXM (by omega)
    have hQ:Hid (QT w1 n (.pointer (some ⟨gX,0,none⟩)) (.slice (some ⟨gP,0,none⟩) n n) (YPXM.setCell ⟨gX,0,none⟩ (.slice (some ⟨gM,0,none⟩) n n))):=⟨gX,gM,gP,rfl,rfl,⟨by omega,by omega,by omega,by omega,by omega,by omega⟩,CE,oE.cel CM.out (by omega),oE.cel CP.out (by omega),HBc.out.trans (oE.below (by omega))⟩
    clear CE oE CX CM CP HBc x0 x1 hSYPXM;generalize YPXM.setCell ⟨gX,0,none⟩ (.slice (some ⟨gM,0,none⟩) n n)=YE at *;refine hK.out _ _ (fun _=>hS) ?_;clear hK K;try simp only[Act.put,aw,ar,an,ah,aj,ai]
    refine aK 8 hS ?_;refine az.done (by kernel_rfl) ?_ _;clear hS;go_wp2_with fail;go_meet;exact hQ.out
  .intro K hK;go_simp;obtain⟨YX,hYX⟩:∃YX,YX=Y.alloc (.cells #[.slice none 0 0] 22):=⟨_,rfl⟩;have bYX:Below Y.heap.size Y YX:=by rw[hYX];exact below_alloc _ _
   have CX:=ag (show aa YX Y.heap.size [.slice none 0 0] 22 by rw[hYX];exact aa.new _ _ _);have hSYX:aa YX w.heap.size [.int .i64 k,.int .i64 (n:Int),.slice lo 8 lc,.slice zo 8 zc] 27:=hSY.kept bYX;rw[<-hYX]
   clear hYX;refine hK.out _ _ (fun _=>hSYX) ?_;clear hK K;try simp only[Act.put,aw,ar,an,ah,aj,ai]
   replace HBc:=ag (bg HBc.out bYX);have sYX:=CX.out.lt;clear bYX hSY;obtain⟨gX,hgX⟩:∃g,Hid (g=Y.heap.size):=⟨_,rfl⟩;rw[<-hgX.out]at CX sYX⊢
   have loX:Y.heap.size<=gX:=by rw[hgX.out];exact Nat.le_refl _
   clear hgX;refine az.two 2 5 (by kernel_rfl) rfl rfl ?_ ?_
   .intro K hK;refine cZ YX.heap.size 5 i0 (.int .u8 0) 1 underlying22 hi hz0 hz1 n rfl rfl (by rw[hz2];omega) (by unfold maxLen;omega) (Nat.le_refl _) ?_;intro YXM hown hgr
    have CM:=ag (eO (k:=.u8) (n:=n) (by rw[Nat.mul_one]at hown;exact hown));have bYXM:Below YX.heap.size YX YXM:=(Below.refl _ _).grown hgr (Nat.le_refl _) (fun k h=>by cases h);clear hown hgr
    have hSYXM:aa YXM w.heap.size [.int .i64 k,.int .i64 (n:Int),.slice lo 8 lc,.slice zo 8 zc] 27:=hSYX.kept bYXM;refine hK.out _ _ (fun _=>hSYXM) ?_;clear hK K;try simp only[Act.put,aw,ar,an,ah,aj,ai]
    replace CX:=ag (CX.out.kept bYXM);replace HBc:=ag (bg HBc.out bYXM);have sYXM:=CM.out.lt;clear bYXM hSYX;obtain⟨gM,hgM⟩:∃g,Hid (g=YX.heap.size):=⟨_,rfl⟩
    rw[<-hgM.out]at CM sYXM⊢;have loM:YX.heap.size<=gM:=by rw[hgM.out];exact Nat.le_refl _
    clear hgM;refine aO 5 ?_;intro K hK;go_simp;refine(l_ n YXM (by omega)).mono ?_;rintro e YXMP ⟨gP,rfl,hcp,loP,bYXMP⟩;have CP:=ag hcp;clear hcp
    have hSYXMP:aa YXMP w.heap.size [.int .i64 k,.int .i64 (n:Int),.slice lo 8 lc,.slice zo 8 zc] 27:=hSYXM.kept bYXMP;refine hK.out _ _ (fun _=>hSYXMP) ?_;clear hK K
    try simp only[Act.put,aw,ar,an,ah,aj,ai]
    replace CX:=ag (CX.out.kept bYXMP);replace CM:=ag (CM.out.kept bYXMP);replace HBc:=ag (bg HBc.out bYXMP);have sYXMP:=CP.out.lt;clear bYXMP hSYXM;refine aO 7 ?_;intro K hK
    have x0:=CX.out.cell 0 rfl;have x1:=CX.out.frozen 0;go_simp;have oE:aC gX YXMP (YXMP.setCell ⟨gX,0,none⟩ (.slice (some ⟨gM,0,none⟩) n n)):=(aC.refl _ _).set 0 _
    have CE:=CX.out.set 0 (.slice (some ⟨gM,0,none⟩) n n);simp only[List.set_cons_zero]at CE
    have hS:aa (YXMP.setCell ⟨gX,0,none⟩ (.slice (some ⟨gM,0,none⟩) n n)) w.heap.size [.int .i64 k,.int .i64 (n:Int),.slice lo 8 lc,.slice zo 8 zc] 27:=oE.cel hSYXMP (by omega)
    have hQ:Hid (QT w1 n (.pointer (some ⟨gX,0,none⟩)) (.slice (some ⟨gP,0,none⟩) n n) (YXMP.setCell ⟨gX,0,none⟩ (.slice (some ⟨gM,0,none⟩) n n))):=⟨gX,gM,gP,rfl,rfl,⟨by omega,by omega,by omega,by omega,by omega,by omega⟩,CE,oE.cel CM.out (by omega),oE.cel CP.out (by omega),HBc.out.trans (oE.below (by omega))⟩
    clear CE oE CX CM CP HBc x0 x1 hSYXMP;generalize YXMP.setCell ⟨gX,0,none⟩ (.slice (some ⟨gM,0,none⟩) n n)=YE at *;refine hK.out _ _ (fun _=>hS) ?_;clear hK K;try simp only[Act.put,aw,ar,an,ah,aj,ai]
    refine aK 8 hS ?_;refine az.done (by kernel_rfl) ?_ _;clear hS;go_wp2_with fail;go_meet;exact hQ.out
   .intro K hK;go_simp;refine(l_ n YX (by omega)).mono ?_;rintro e YXP ⟨gP,rfl,hcp,loP,bYXP⟩;have CP:=ag hcp;clear hcp
    have hSYXP:aa YXP w.heap.size [.int .i64 k,.int .i64 (n:Int),.slice lo 8 lc,.slice zo 8 zc] 27:=hSYX.kept bYXP;refine hK.out _ _ (fun _=>hSYXP) ?_;clear hK K;try simp only[Act.put,aw,ar,an,ah,aj,ai]
    replace CX:=ag (CX.out.kept bYXP);replace HBc:=ag (bg HBc.out bYXP);have sYXP:=CP.out.lt;clear bYXP hSYX;refine aO 2 ?_;intro K hK
    refine cZ YXP.heap.size 5 i0 (.int .u8 0) 1 underlying22 hi hz0 hz1 n rfl rfl (by rw[hz2];omega) (by unfold maxLen;omega) (Nat.le_refl _) ?_;intro YXPM hown hgr
    have CM:=ag (eO (k:=.u8) (n:=n) (by rw[Nat.mul_one]at hown;exact hown));have bYXPM:Below YXP.heap.size YXP YXPM:=(Below.refl _ _).grown hgr (Nat.le_refl _) (fun k h=>by cases h);clear hown hgr
    have hSYXPM:aa YXPM w.heap.size [.int .i64 k,.int .i64 (n:Int),.slice lo 8 lc,.slice zo 8 zc] 27:=hSYXP.kept bYXPM;refine hK.out _ _ (fun _=>hSYXPM) ?_;clear hK K
    try simp only[Act.put,aw,ar,an,ah,aj,ai]
    replace CX:=ag (CX.out.kept bYXPM);replace CP:=ag (CP.out.kept bYXPM);replace HBc:=ag (bg HBc.out bYXPM);have sYXPM:=CM.out.lt;clear bYXPM hSYXP
    obtain⟨gM,hgM⟩:∃g,Hid (g=YXP.heap.size):=⟨_,rfl⟩;rw[<-hgM.out]at CM sYXPM⊢;have loM:YXP.heap.size<=gM:=by rw[hgM.out];exact Nat.le_refl _
    clear hgM;refine aO 7 ?_;intro K hK;have x0:=CX.out.cell 0 rfl;have x1:=CX.out.frozen 0;go_simp;have oE:aC gX YXPM (YXPM.setCell ⟨gX,0,none⟩ (.slice (some ⟨gM,0,none⟩) n n)):=(aC.refl _ _).set 0 _
    have CE:=CX.out.set 0 (.slice (some ⟨gM,0,none⟩) n n);simp only[List.set_cons_zero]at CE
    have hS:aa (YXPM.setCell ⟨gX,0,none⟩ (.slice (some ⟨gM,0,none⟩) n n)) w.heap.size [.int .i64 k,.int .i64 (n:Int),.slice lo 8 lc,.slice zo 8 zc] 27:=oE.cel hSYXPM (by omega)
    have hQ:Hid (QT w1 n (.pointer (some ⟨gX,0,none⟩)) (.slice (some ⟨gP,0,none⟩) n n) (YXPM.setCell ⟨gX,0,none⟩ (.slice (some ⟨gM,0,none⟩) n n))):=⟨gX,gM,gP,rfl,rfl,⟨by omega,by omega,by omega,by omega,by omega,by omega⟩,CE,oE.cel CM.out (by omega),oE.cel CP.out (by omega),HBc.out.trans (oE.below (by omega))⟩
    clear CE oE CX CM CP HBc x0 x1 hSYXPM;generalize YXPM.setCell ⟨gX,0,none⟩ (.slice (some ⟨gM,0,none⟩) n n)=YE at *;refine hK.out _ _ (fun _=>hS) ?_;clear hK K;try simp only[Act.put,aw,ar,an,ah,aj,ai]
    refine aK 8 hS ?_;refine az.done (by kernel_rfl) ?_ _;clear hS;go_wp2_with fail;go_meet;exact hQ.out
 case rest=>
  obtain⟨g3,gx,gp,rfl,rfl,⟨o1,o2,o3,o4,o5,o6⟩,c3,cx,cp,hbx⟩:=hcut;have HT:=ag (show aa wc gx (vK .u8 (Mx.txL t 0 0)) 5 by rw[Mx.txL_zero hB,<-hnn.out];exact cx)
  have HP:=ag (show Nd wc (some ⟨gp,0,none⟩) (mI (Mx.pl t 0))by have:=tB cp;rw[hnn.out]at this;exact this);have C3:=ag c3;have HBx:=ag hbx
  have CW:Hid (∀l w0,l<8->Qx 30 #[.int .i64 (l:Nat)] w0 (.int .u8 ((2^(7-l):Nat):Int))):=fun l w0 hl=>pC l hl w0
  have CQ:Hid (∀l po pc g5 w0,l<8->Nd w0 po (mI (Mx.pl t l))->aa w0 g3 [.slice (some ⟨gx,0,none⟩) n n] 22->aa w0 gx (vK .u8 (Mx.txL t (l+1) 0)) 5->aa w0 g5 [.int .i64 (l:Int)] 3->Calls prog 49 #[.slice po n pc,.func (.func 50) #[] #[.pointer (some ⟨g3,0,none⟩),.pointer (some ⟨g5,0,none⟩)]] w0 fun e w'=>∃ao cap z,e=.returned (.tuple #[.slice ao n cap,.int .i64 (z:Nat)])/\Nd w' ao (mI (Mx.pl t (l+1)))/\Below w0.heap.size w0 w'):=fun l po pc g5 w0 hl h1 h2 h3 h4=>by
   have:=Cm po (Mx.pl t l) pc g3 g5 (fun j=>Mx.tb l (gt t j)) w0 h1 (by rw[Mx.length_pl];omega) (fun x w2 hm hb=>Cd t x l n g3 gx g5 w2 ((Mx.mem_pl t l x).1 hm) hnn.out hl hB (h2.kept hb) (h3.kept hb) (h4.kept hb))
   rw[Mx.length_pl,<-hnn.out]at this;refine this.mono ?_;rintro e w' ⟨ao,m,cap,rfl,hm,how,hbe⟩;have em:m=n:=by rw[hm,(Mx.perm_pt _ _).length_eq,Mx.length_pl,hnn.out]
   subst em;exact⟨ao,cap,_,rfl,lZ how (by rw[Mx.length_pl,hnn.out]),hbe⟩
  clear cx cp c3 hbx hi hz0 hz1 hz2 i0;go_wp2
  go_loopw [4,20] (fun vp vl wr=>∃(l:Nat) (po:Option Addr) (pc:Nat),l<=8/\vl=.int .i64 l/\vp=.slice po n pc/\Hid (Nd wr po (mI (Mx.pl t l)))/\Hid (aa wr gx (vK .u8 (Mx.txL t l 0)) 5)/\Hid (aa wr g3 [.slice (some ⟨gx,0,none⟩) n n] 22)/\Hid (Below w1.heap.size w1 wr)) (fun _ vl _=>8-(intOf vl).toNat)
  case atStart=>exact⟨0,_,_,Nat.zero_le _,rfl,rfl,HP,HT,C3,HBx⟩
  case round=>
   clear HP HT C3 HBx;obtain⟨l,po,pc,hl,rfl,rfl,HP,HT,C3,HBx⟩:=hrel;by_cases hlt:l<8
   .have hltz:(l:Int)<8:=by omega
    obtain⟨W1,hW1⟩:∃W1,W1=wr.alloc (.cells #[.int .i64 (l:Int)] 3):=⟨_,rfl⟩;have b1:Below wr.heap.size wr W1:=by rw[hW1];exact below_alloc wr _
    have CLb:=ag (show aa W1 wr.heap.size [.int .i64 (l:Int)] 3 by rw[hW1];exact aa.new wr _ _);replace HP:=ag (HP.out.keep b1);have lgx:=HT.out.lt;have lg3:=C3.out.lt;replace HT:=ag (HT.out.kept b1)
    replace C3:=ag (C3.out.kept b1);have zz:=HBx.out.size;replace HBx:=ag (bg HBx.out b1);obtain⟨g5,hg5⟩:∃g5,Hid (g5=wr.heap.size):=⟨_,rfl⟩
    have h5x:gx<g5:=by rw[hg5.out];exact lgx
    have h53:g3<g5:=by rw[hg5.out];exact lg3
    have h51:w1.heap.size<=g5:=by rw[hg5.out];exact zz
    rw[<-hg5.out]at CLb;have HMr:=ag (HM.out.keep HBx.out);have Kr:=ag (K1.out.kept HBx.out);rw[hnn.out]at HMr;obtain⟨rb,ro,rs,erb,hrb,hrg,hki⟩:=HMr.out.row hlt;subst erb
    have CBt:=ag (VV.bit rs _ W1 hki (pW hkn hle l));rw[(jZ hkn hle l).2.1,(jZ hkn hle l).2.2,<-hnn.out]at CBt;have HL:=ag hki.arg.len;have HR:=ag hrg;have y2:=Kr.out.cell 2 rfl
    have l0:=CLb.out.cell 0 rfl;rw[hW1]at y2 l0 HR;rw[hg5.out]at l0;clear b1 hki hrg hrb zz lgx lg3;go_wp2_with (refine aY rb (ro+l*22) rs (by rfl) rfl HR.out underlying63 HL.out ?_);rw[<-hW1,<-hg5.out]
    clear hW1 HR y2 l0 hg5 HMr Kr;refine CBt.out.mono ?_;rintro e w2 ⟨bo,bc,rfl,hwd,hcap,hb⟩;obtain⟨X,hX⟩:∃X,Hid (X=aB (Mx.rw_ t l)):=⟨_,rfl⟩;rw[<-hX.out]at hwd hcap⊢
    have HFit:Hid (aA X):=by rw[hX.out];exact cY _ _
    obtain⟨W3,hW3⟩:∃W3,W3=w2.alloc (.cells #[.int .i64 (n:Nat),.slice bo X.length bc] 53):=⟨_,rfl⟩;have b3:Below w2.heap.size w2 W3:=by rw[hW3];exact below_alloc w2 _
    have bb:=bg hb b3;have C6:=ag (show aa W3 w2.heap.size [.int .i64 (n:Nat),.slice bo X.length bc] 53 by rw[hW3];exact aa.new w2 _ _);have z2:=CLb.out.lt;have z3:=hb.size
    replace HP:=ag (HP.out.keep bb);replace HT:=ag (HT.out.kept bb);replace C3:=ag (C3.out.kept bb);replace CLb:=ag (CLb.out.kept bb);replace HBx:=ag (bg HBx.out bb)
    have HWd:=ag (hwd.keep b3);obtain⟨g6,hg6⟩:∃g6,Hid (g6=w2.heap.size):=⟨_,rfl⟩;have h65:g5<g6:=by rw[hg6.out];omega
    rw[<-hg6.out]at C6;clear hb b3 bb hwd CBt;go_wp2;rw[<-hW3,<-hg6.out];clear hW3 hg6 z2 z3
    go_loopw [31] (fun vi wz=>∃i:Nat,i<=n/\vi=.int .i64 i/\Hid (Nd wz po (mI (Mx.pl t l)))/\Hid (aa wz gx (vK .u8 (Mx.txL t l i)) 5)/\Hid (aa wz g3 [.slice (some ⟨gx,0,none⟩) n n] 22)/\Hid (aa wz g5 [.int .i64 (l:Int)] 3)/\Hid (aa wz g6 [.int .i64 (n:Nat),.slice bo X.length bc] 53)/\Hid (Wd wz bo X)/\Hid (Below w1.heap.size w1 wz)) (fun vi _=>n-(intOf vi).toNat)
    case atStart=>exact⟨0,Nat.zero_le _,rfl,HP,HT,C3,CLb,C6,HWd,HBx⟩
    case round=>
     clear HP HT C3 CLb C6 HWd HBx;obtain⟨i,hi,rfl,HP,HT,C3,CLb,C6,HWd,HBx⟩:=hrel;by_cases hil:i<n
     .have hilz:(i:Int)<(n:Int):=by omega
      obtain⟨p,hpl⟩:∃p,(Mx.pl t l)[i]?=some p:=⟨_,List.getElem?_eq_getElem (by rw[Mx.length_pl,<-hnn.out];exact hil)⟩;obtain⟨hpn,hgp,hst⟩:=Mx.txL_step hpl
      have hsk:=ag (fun h0=>Mx.txL_skip hB hlt hpl h0);obtain⟨nb,no,epo,hnl,hnc⟩:=HP.out (by rw[dh,Mx.length_pl,<-hnn.out];omega);subst epo
      have p1:=hnc i (by rw[dh,Mx.length_pl,<-hnn.out];exact hil);rw[ip _ i (by rw[Mx.length_pl,<-hnn.out];exact hil),show gt (Mx.pl t l) i=p by unfold gt;rw[List.getD_eq_getElem?_getD,hpl];rfl]at p1
      have hbit:iq (n:Int) X (i:Int)=Mx.tb l (gt t p):=by
       unfold iq
       rw[hX.out,hnn.out,lB hle l,decide_eq_true (by have:=hnn.out;omega),Int.toNat_natCast,qU _ _ _ (show(Mx.rw_ t l)[i]?=some (Mx.tb l (gt t p))by unfold Mx.rw_;rw[List.getElem?_map,hpl];rfl)]
       simp
      have CG:=ag (EV (n:Int) bo X bc (i:Int) wr HWd.out HFit.out);rw[hbit]at CG;obtain⟨EE,hEE⟩:∃EE,Hid (EE=dB (n:Int) X (i:Int)):=⟨_,rfl⟩;rw[<-hEE.out]at CG;have c60:=C6.out.cell 0 rfl
      have c61:=C6.out.cell 1 rfl;have hpz:(p:Int)<(n:Int):=by rw[hnn.out];omega
      have tp:=Mx.top_lt (l:=l) (hB p);have ton:=ag (fun h=>Mx.top_on (hB p) hlt h);obtain⟨TT,hTT⟩:∃TT,Hid (TT=Mx.top l (gt t p)):=⟨_,rfl⟩
      obtain⟨T2,hT2⟩:∃T2,Hid (T2=Mx.top (l+1) (gt t p)):=⟨_,rfl⟩;rw[<-hTT.out,<-hT2.out]at ton;rw[<-hTT.out]at tp hgp;rw[<-hT2.out]at hst;have HGP:=ag hgp;have HST:=ag hst
      generalize Mx.tb l (gt t p)=bb at *;have CWl:=ag (fun w0=>CW.out l w0 hlt);have hw2:(2:Nat)^(7-l)<=128:=Nat.le_trans (Nat.pow_le_pow_right (by decide) (show 7-l<=7 by omega)) (by decide)
      have H8:=ag (pj TT (2^(7-l)) tp (by omega));generalize (2:Nat)^(7-l)=WW at *;clear hnc hbit hEE hgp hst;go_wp2_with fail;refine CG.out.mono ?_;rintro e w4 ⟨rfl,hb⟩;replace HP:=ag (HP.out.keep hb)
      replace HT:=ag (HT.out.kept hb);replace C3:=ag (C3.out.kept hb);replace CLb:=ag (CLb.out.kept hb);replace C6:=ag (C6.out.kept hb);replace HWd:=ag (HWd.out.keep hb)
      replace HBx:=ag (bg HBx.out hb);clear hb CG c60 c61 p1;cases bb with
      | true=>
       have e5:=ton.out rfl;have H8':=H8.out;rw[e5]at H8';clear hsk ton H8;go_wp2
       refine bn [8] (fun w'=>aa w' g3 [.slice (some ⟨gx,0,none⟩) n n] 22/\aa w' g5 [.int .i64 (l:Int)] 3/\aa w' gx (vK .u8 (Mx.txL t l i)) 5/\aa w' g6 [.int .i64 (n:Nat),.slice bo X.length bc] 53/\Wd w' bo X/\Nd w' (some ⟨nb,no,none⟩) (mI (Mx.pl t l))/\Below w1.heap.size w1 w') (by kernel_rfl) ?_
       have hS:(fun w'=>aa w' g3 [.slice (some ⟨gx,0,none⟩) n n] 22/\aa w' g5 [.int .i64 (l:Int)] 3/\aa w' gx (vK .u8 (Mx.txL t l i)) 5/\aa w' g6 [.int .i64 (n:Nat),.slice bo X.length bc] 53/\Wd w' bo X/\Nd w' (some ⟨nb,no,none⟩) (mI (Mx.pl t l))/\Below w1.heap.size w1 w') w4.drew:=⟨C3.out.drew,CLb.out.drew,HT.out.drew,C6.out.drew,HWd.out.keep ((Below.refl _ _).drew),HP.out.keep ((Below.refl _ _).drew),HBx.out.drew⟩
       clear C3 CLb HT C6 HWd HP HBx;generalize w4.drew=V at *
       refine aF 0 hS rfl (fun w0 h0=>by have q0:=h0.1.cell 0 rfl;have q1:=h0.2.2.1.cell p (fY _ _ p (by rw[Mx.length_txL];exact hpn));rw[HGP.out]at q1;have q2:=h0.2.1.cell 0 rfl;go_simp;try with_reducible rfl) ?_
       refine aK 1 hS ?_;refine aK 2 hS ?_
       refine aF 3 hS rfl (fun w0 h0=>by have q0:=h0.1.cell 0 rfl;have q1:=h0.2.2.1.cell p (fY _ _ p (by rw[Mx.length_txL];exact hpn));rw[HGP.out]at q1;have q2:=h0.2.1.cell 0 rfl;go_simp;try with_reducible rfl) ?_
       refine aF 4 hS rfl (fun w0 h0=>by have q0:=h0.1.cell 0 rfl;have q1:=h0.2.2.1.cell p (fY _ _ p (by rw[Mx.length_txL];exact hpn));rw[HGP.out]at q1;have q2:=h0.2.1.cell 0 rfl;go_simp;try with_reducible rfl) ?_
       refine aO 5 ?_;intro K hK;go_simp;refine mr (CWl.out _) fun w9 h9=>?_;rw[h9];clear h9 w9;refine hK.out _ _ (fun _=>hS) ?_;clear hK K;try simp only[Act.put,aw,ar,an,ah,aj,ai]
       refine aK 6 hS ?_;refine aK 7 hS ?_;refine aO 8 ?_;intro K hK;have q1:=hS.2.2.1.cell p (fY _ _ p (by rw[Mx.length_txL];exact hpn));have f1:=hS.2.2.1.frozen p;go_simp
       refine hK.out _ _ (fun h=>absurd (by decide) h) ?_;clear hK K;try simp only[Act.put,aw,ar,an,ah,aj,ai]
       refine az.done (by kernel_rfl) ?_ _;obtain⟨s1,s2,s3,s4,s5,s6,s7⟩:=hS;have o3:aC gx V (V.setCell ⟨gx,p,none⟩ (.int .u8 (T2:Nat))):=(aC.refl _ _).set p _
       have HT':Hid (aa (V.setCell ⟨gx,p,none⟩ (.int .u8 (T2:Nat))) gx (vK .u8 (Mx.txL t l (i+1))) 5):=by
        have:=s3.set p (.int .u8 (T2:Nat));rw[mQ,HST.out]at this;exact this
       have A1:=ag (o3.cel s1 (by omega));have A2:=ag (o3.cel s2 (by omega));have A4:=ag (o3.cel s4 (by omega));have A5:=ag (o3.wd s5 (s5.apart s3 (px _ (by decide) _)));have A6:=ag (BZ s6 s3 o3)
       have A7:=ag (s7.trans (o3.below (base:=w1.heap.size) (by omega)));clear s1 s2 s3 s4 s5 s6 s7 o3 q1 f1;go_wp2;exact⟨⟨i+1,by omega,by go_num,A6,HT',A1,A2,A4,A5,A7⟩,by simp only[intOf];omega⟩
      | false=>
       have e6:=hsk.out rfl;rw[e6]at HT;clear hsk ton H8 CWl e6;go_wp2;exact⟨⟨i+1,by omega,by go_num,HP,HT,C3,CLb,C6,HWd,HBx⟩,by simp only[intOf];omega⟩
     .obtain rfl:i=n:=by omega
      have eT:Hid (Mx.txL t l i=Mx.txL t (l+1) 0):=by show _=_;rw[hnn.out];exact Mx.txL_next t l
      rw[eT.out]at HT;have CQl:=ag (CQ.out l po pc g5 wr hlt HP.out C3.out HT.out CLb.out);clear CQ CW eT;go_wp2_with fail;refine CQl.out.mono ?_;rintro e w5 ⟨ao2,cap2,z,rfl,hnd,hb⟩;have HP2:=ag hnd
      have HT2:=ag (HT.out.kept hb);have C32:=ag (C3.out.kept hb);have HB2:=ag (bg HBx.out hb);clear hb hnd CQl HP HT C3 CLb C6 HWd HBx;go_wp2
      exact⟨⟨l+1,ao2,cap2,by omega,by go_num,rfl,HP2,HT2,C32,HB2⟩,by simp only[intOf];omega⟩
   .obtain rfl:l=8:=by omega
    have q0:=C3.out.cell 0 rfl;have HF:=ag (bd_vK (t:=t) (by have:=HT.out;rw[Mx.txL_all]at this;exact this));have HBe:=ag (bg HBa.out HBx.out);clear CQ CW HP HT HBx;go_wp2;go_ret
    exact⟨_,_,rfl,HF.out,HBe.out⟩
theorem rh(n:Nat):Builtin.zeroCells #[.int .i64 0] n=(vK .i64 (List.replicate n 0)).toArray:=by
 apply Array.ext';unfold Builtin.zeroCells vK;rw[Array.toList_map,Array.toList_range,List.map_replicate];refine List.ext_getElem (by simp) fun i h1 h2=>?_;simp;rw[show i%1=0 by omega];rfl
def ZO(w:World)(v:Value)(l:List Nat):Prop:=
 (v=.slice none 0 0/\l=[])\/∃g cap,v=.slice (some ⟨g,0,none⟩) l.length cap/\l.length<=cap/\aa w g (vK .i64 (l++List.replicate (cap-l.length) 0)) 3
def Tz(w w':World)(v:Value)(l:List Nat):Prop:=
 (∃g cap,v=.slice (some ⟨g,0,none⟩) l.length cap/\aa w g (vK .i64 (l++List.replicate (cap-l.length) 0)) 3/\aC g w w')\/Below w.heap.size w w'
theorem wI{o:Oper}{a:Act}{w:World}{K:Act->World->Prop}{Q:Exit->Act->World->Prop}(s x:Operand)
  (ho:o.op=.call { callee:=.builtin .append,args:=#[s,x],argTypes:=#[25,25] })
  (v:Value) (l:List Nat) (hs:a.eval s=v) (h:ZO w v l) (z:Nat) (ad:Addr) (c0:Nat) (hx:a.eval x=.slice (some ad) 1 c0) (hn:w.cell? (ad.add 0)=some (.int .i64 z)) (h8:l.length<1000000)
  (k:∀v' w',ZO w' v' (l++[z])->Tz w w' v l->(∀g,v'.ownBlock=some g->v.ownBlock=some g\/g=w.heap.size)->K (a.put o.dst v') w'):o.wp prog a w K Q:=by
 obtain⟨i0,hi,hz0,hz1,hz2⟩:=info_parts jp
 have hn':∀j u,([.int .i64 z]:List Value)[j]?=some u->w.cell? (ad.add j)=some u:=fun j u hj=>by
  match j,hj with
  | 0,hj=>simp at hj;subst hj;exact hn
 have h1:∀u∈([.int .i64 z]:List Value),u.oneCell'=true:=fun u hu=>by simp at hu;subst hu;rfl
 have vz:vK .i64 [z]=[.int .i64 z]:=rfl;rcases h with⟨rfl,rfl⟩ | ⟨g,cap,rfl,hcap,hcel⟩
 .have hr:=run_append_nil (P:=prog) w 25 o.type 3 i0 (.int .i64 0) underlying25 hi hz0 ad 1 c0 [.int .i64 z] (by rw[hz1];rfl) hn' (by decide) (by decide) (by rw[hz2];decide)
  have hge:1<=grownCap w 1 0 3:=grownCap_ge w 1 0 3;generalize grownCap w 1 0 3=cp at *;unfold Oper.wp execOp
  simp only[ho,resolve,invoke,builtin,Sem.run_bind,Sem.run_pure,Result.andThen_ok,List.map_toArray,List.map_cons,List.map_nil,hs,hx,hr]
  refine k _ _ (.inr ⟨w.heap.size,cp,rfl,hge,?_⟩) (.inr ?_) (fun g hg=>.inr (by injection hg with e;exact e.symm))
  .show aa _ _ (Value.int .i64 (z:Nat)::vK .i64 (List.replicate (cp-1) 0)) 3;have:=aa.new w.drew (Value.int .i64 (z:Nat)::vK .i64 (List.replicate (cp-1) 0)) 3;simpa [Value.cells,rh,gF,vz]using this
  .exact(Below.refl w.heap.size w).drew.alloc (Nat.le_refl _) _
 .have lv:(vK .i64 l).length=l.length:=by simp[vK]
  by_cases hroom:l.length+1<=cap
  .have hsz:(vK .i64 (l++List.replicate (cap-l.length) 0)).length=cap:=by simp[vK];omega
   have hr:=run_append_room (P:=prog) w 25 o.type 3 i0 underlying25 hi g l.length cap _ hcel ad 1 c0 [.int .i64 z] (by rw[hz1];rfl) hn' h1 hroom (by rw[hz1,List.size_toArray,hsz];simp;omega)
   have ez:List.replicate (cap-l.length) 0=0::List.replicate (cap-(l.length+1)) 0:=by rw[show cap-l.length=cap-(l.length+1)+1 by omega];rfl
   have e2:(vK .i64 (l++List.replicate (cap-l.length) 0)).take (l.length*i0.size)++[.int .i64 z]++(vK .i64 (l++List.replicate (cap-l.length) 0)).drop (l.length*i0.size+([.int .i64 z]:List Value).length)=vK .i64 (l++([z]++List.replicate (cap-(l.length+1)) 0)):=by
    rw[hz1,Nat.mul_one,ez,gF,gF,gF,vz,List.take_left' lv,List.append_assoc,List.drop_append,List.drop_eq_nil_of_le (by rw[lv];simp),lv];simp[vK]
   unfold Oper.wp execOp;simp only[ho,resolve,invoke,builtin,Sem.run_bind,Sem.run_pure,Result.andThen_ok,List.map_toArray,List.map_cons,List.map_nil,hs,hx,hr];rw[e2]
   refine k _ _ (.inr ⟨g,cap,by simp,by simp;omega,?_⟩) (.inl ⟨g,cap,rfl,hcel,aC.row g w _⟩) (fun g hg=>.inl hg)
   have:=setRow_heap w g _ (vK .i64 (l++([z]++List.replicate (cap-(l.length+1)) 0))).toArray _ _ hcel
   have e3:(l++[z])++List.replicate (cap-(l++[z]).length) 0=l++([z]++List.replicate (cap-(l.length+1)) 0):=by simp
   rw[e3];exact this
  .have holds:∀j u,(vK .i64 l)[j]?=some u->w.cell? ((⟨g,0,none⟩:Addr).add j)=some u:=fun j u hj=>by
    have hlt:=(List.getElem?_eq_some_iff.1 hj).1;have:=hcel.cell j (v:=u) (by rw[gF,List.getElem?_append_left hlt];exact hj);rw[<-this];unfold Addr.add;split
    .subst_vars;rfl
    .simp
   have hr:=run_append_grow (P:=prog) w 25 o.type 3 i0 (.int .i64 0) underlying25 hi hz0 ⟨g,0,none⟩ l.length cap (vK .i64 l) (by rw[hz1,lv,Nat.mul_one]) holds ad 1 c0 [.int .i64 z] (by rw[hz1];rfl) hn' (by omega) (by omega) (growslice_fits (by omega) (by rw[hz2];omega))
   have hge:l.length+1<=grownCap w (l.length+1) cap 3:=grownCap_ge w (l.length+1) cap 3;generalize grownCap w (l.length+1) cap 3=cp at *;unfold Oper.wp execOp
   simp only[ho,resolve,invoke,builtin,Sem.run_bind,Sem.run_pure,Result.andThen_ok,List.map_toArray,List.map_cons,List.map_nil,hs,hx,hr]
   refine k _ _ (.inr ⟨w.heap.size,cp,by simp,by simpa using hge,?_⟩) (.inr ((Below.refl w.heap.size w).drew.alloc (Nat.le_refl _) _)) (fun g hg=>.inr (by injection hg with e;exact e.symm))
   have:=aa.new w.drew (vK .i64 (l++([z]++List.replicate (cp-(l.length+1)) 0))) 3;have e3:(l++[z])++List.replicate (cp-(l++[z]).length) 0=l++([z]++List.replicate (cp-(l.length+1)) 0):=by simp
   rw[e3];rw[gF,gF,vz]at this⊢;simpa [Value.cells,rh,List.append_assoc]using this
theorem ZO.keep{w w':World}{v:Value}{l:List Nat}(h:ZO w v l)(hb:Below w.heap.size w w'):ZO w' v l:=by
 rcases h with e | ⟨g,cap,e1,e2,e3⟩
 .exact .inl e
 .exact .inr ⟨g,cap,e1,e2,e3.kept hb⟩
theorem ZO.len{w:World}{v:Value}{l:List Nat}(h:ZO w v l):∃zo cap,v=.slice zo l.length cap:=by
 rcases h with⟨e,rfl⟩ | ⟨g,cap,e1,e2,e3⟩
 .exact⟨none,0,e⟩
 .exact⟨_,_,e1⟩
theorem ZO.lt{w:World}{v:Value}{l:List Nat}(h:ZO w v l){g:Nat}(hg:v.ownBlock=some g):g<w.heap.size:=by
 rcases h with⟨rfl,_⟩ | ⟨g',cap,rfl,e2,e3⟩
 .cases hg
 .injection hg with e
  rw[<-e];exact e3.lt
theorem ZO.only{w w':World}{v:Value}{l:List Nat}{g0:Nat}{gs:List Value}{T:TypeId}(h:ZO w v l)(hc:aa w g0 gs T)(hT:T≠3)(hO:aC g0 w w'):ZO w' v l:=by
 rcases h with e | ⟨g,cap,e1,e2,e3⟩
 .exact .inl e
 .exact .inr ⟨g,cap,e1,e2,hO.cel e3 (fun q=>hT (by subst q;exact lF hc e3))⟩
theorem ZO.tn{w w':World}{v u:Value}{l:List Nat}{css:List (List Value)}(h:ZO w v l)(hT:Tn w w' u css):ZO w' v l:=by
 rcases hT with⟨g,cap,_,e1,e2⟩ | hb
 .exact h.only e1 (by decide) e2
 .exact h.keep hb
theorem ZO.nd{w:World}{zo:Option Addr}{n c:Nat}{l:List Nat}(h:ZO w (.slice zo n c) l):Nd w zo (mI l):=by
 rcases h with⟨e,rfl⟩ | ⟨g,cap,e1,e2,e3⟩
 .exact fun h0=>absurd h0 (by simp[mI])
 .injection e1 with a1 a2 a3
  subst a1;intro h0;refine⟨g,0,rfl,e3.lt,fun i hi=>?_⟩;rw[dh]at hi;rw[ip l i hi,Nat.zero_add];refine e3.cell i ?_;rw[fY _ _ _ (by rw[List.length_append];omega)];congr 3;unfold gt
  rw[List.getD_eq_getElem?_getD,List.getD_eq_getElem?_getD,List.getElem?_append_left hi]
theorem BH(l:List Nat):bQ (vK .i64 l):=px .i64 (by decide) l
theorem Tz.cel{w w2:World}{v:Value}{l:List Nat}(h:Tz w w2 v l){b:Nat}{bs:List Value}{T:TypeId}(hc:aa w b bs T)(hT:T≠3):aa w2 b bs T:=by
 rcases h with⟨g,cap,rfl,e1,e2⟩ | hb
 .exact e2.cel hc (fun q=>hT (by subst q;exact lF hc e1))
 .exact hc.kept hb
theorem Tz.below{w w2:World}{v:Value}{l:List Nat}{base:Nat}(h:Tz w w2 v l)(ho:∀g,v.ownBlock=some g->base<=g)(hb:base<=w.heap.size):Below base w w2:=by
 rcases h with⟨g,cap,rfl,e1,e2⟩ | h
 .exact e2.below (ho g rfl)
 .exact h.mono hb
structure ff (gx:Nat) (w:World) (v u:Value) (R:Nat->RA) (css:List (List Value)):Prop where
 r:ed gx w v R css
 z:∀(l:Nat) (c:List Value),css[l]?=some c->∀g,u.ownBlock=some g->NE g c
theorem ff.nil(gx:Nat)(w:World)(R:Nat->RA):ff gx w (.slice none 0 0) (.slice none 0 0) R []:=⟨ed.nil _ _ _,fun l c e=>by simp at e⟩
theorem ff.keep{gx:Nat}{w w':World}{v u:Value}{R:Nat->RA}{css:List (List Value)}(h:ff gx w v u R css)(hb:Below w.heap.size w w'):ff gx w' v u R css:=⟨h.r.keep hb,h.z⟩
theorem ff.only{gx g0:Nat}{w w2:World}{v u:Value}{R:Nat->RA}{css:List (List Value)}{gs:List Value}{T:TypeId}(h:ff gx w v u R css)(hg:g0<=gx)(hc:aa w g0 gs T)(hT:T≠63)(hn:bQ gs)(hO:aC g0 w w2)(G2:GV w2):ff gx w2 v u R css:=⟨h.r.only hg hc hT hn hO G2,h.z⟩
theorem ff.push{gx:Nat}{w w2:World}{v v2 u:Value}{R:Nat->RA}{css:List (List Value)}{c:List Value}(h:ff gx w v u R css)(hk:KI w c (R css.length))(hn:(∀g,v.ownBlock=some g->NE g c)/\∀g0,g0<=gx->NE g0 c)(hz:∀g,u.ownBlock=some g->NE g c)(h2:kf w2 v2 (css++[c]))(hT:Tn w w2 v css)(hv:∀g,v2.ownBlock=some g->v.ownBlock=some g\/g=w.heap.size)(G2:GV w2):ff gx w2 v2 u R (css++[c]):=by
 refine⟨h.r.push hk hn h2 hT hv G2,fun l d e g hg=>?_⟩;by_cases hl:l<css.length
 .rw[List.getElem?_append_left hl]at e;exact h.z l d e g hg
 .rw[List.getElem?_append_right (by omega)]at e
  have:l-css.length=0:=by
   have:=(List.getElem?_eq_some_iff.1 e).1;simp at this;omega
  rw[this]at e;simp at e;subst e;exact hz g hg
theorem ff.zs{gx:Nat}{w w2:World}{v u u2:Value}{R:Nat->RA}{css:List (List Value)}{l:List Nat}(h:ff gx w v u R css)(hT:Tz w w2 u l)(hv:∀g,u2.ownBlock=some g->u.ownBlock=some g\/g=w.heap.size)(G2:GV w2):ff gx w2 v u2 R css:=by
 refine⟨⟨?_,fun q c e=>?_⟩,fun q c e g hg=>?_⟩
 .rcases hT with⟨g,cap,rfl,e1,e2⟩ | hb
  .rcases h.r.lo with e | ⟨g',cap',a1,a2,a3⟩
   .exact .inl e
   .exact .inr ⟨g',cap',a1,a2,e2.cel a3 (fun q=>by subst q;have:=lF e1 a3;revert this;decide)⟩
  .exact(h.r.keep hb).lo
 .refine⟨?_,(h.r.row q c e).2⟩;rcases hT with⟨g,cap,rfl,e1,e2⟩ | hb
  .exact(h.r.row q c e).1.only2 (h.z q c e g rfl) e1 (BH _) e2 G2
  .exact(h.r.row q c e).1.keep hb
 .rcases hv g hg with e1 | rfl
  .exact h.z q c e g e1
  .exact(h.r.row q c e).1.ne
theorem rZ(lo:Option Addr)(l:List Nat)(lc:Nat)(bo:Option Addr)(bc:Nat)(f:Nat->Bool)(w:World)(hl:Nd w lo (mI l))(hb:Bl w bo (l.map f))(hn:l.length<=1048576):
  Calls prog 36 #[.slice lo l.length lc,.slice bo l.length bc] w fun e w'=>∃ao n cap,e=.returned (.slice ao n cap)/\n=(Mx.pt f l).length/\w'.ownsRow w.heap.size 3 1 (.slice ao n cap) n (vK .i64 (Mx.pt f l))/\Below w.heap.size w w':=by
 obtain⟨i0,hi,hz0,hz1,hz2⟩:=info_parts jp;have HN:=ag hl;have HBl:=ag hb;clear hl hb;go_enter func36,ntmps36;go_wp2
 go_loopw [5,6,7] (fun vo vn vi wr=>∃q:Nat,q<=l.length/\vi=.int .i64 q/\Hid (PE 3 .i64 wr w.heap.size f l q vo vn)/\Hid (Below w.heap.size w wr)) (fun _ _ vi _=>l.length-(intOf vi).toNat)
 case atStart=>exact⟨0,Nat.zero_le _,rfl,ag ⟨World.ownsRow_nil _ _ _ _,World.ownsRow_nil _ _ _ _,fun k h=>by cases h⟩,ag (Below.refl _ _)⟩
 case round=>
  obtain⟨q,hq,rfl,HP,HB⟩:=hrel;by_cases hlt:q<l.length
  .have hltz:(q:Int)<(l.length:Int):=by omega
   obtain⟨b,off,rfl,hlb,hc⟩:=(HN.out.keep HB.out) (by rw[dh];omega);have a0:=hc q (by rw[dh];exact hlt);rw[ip l q hlt]at a0
   obtain⟨b2,off2,rfl,hlb2,hc2⟩:=(HBl.out.keep HB.out) (by rw[List.length_map];omega);have a2:=hc2 q (by rw[List.length_map];exact hlt)
   have eb:bt (l.map f) q=f (gt l q):=by unfold bt gt;rw[List.getD_eq_getElem?_getD,List.getD_eq_getElem?_getD,List.getElem?_map,List.getElem?_eq_getElem hlt];rfl
   rw[eb]at a2;obtain⟨p,hp⟩:∃p,Hid (p=gt l q):=⟨_,rfl⟩;rw[<-hp.out]at a0 a2;obtain⟨BB,hBB⟩:∃BB,Hid (f p=BB):=⟨_,rfl⟩;rw[hBB.out]at a2;have zb:=HB.out.size;clear hc hc2 eb
   rcases(show BB=true\/BB=false by cases BB;exact .inr rfl;exact .inl rfl)with rfl | rfl
   .have HO:=ag HP.out.o2
    go_wp2_with (at_builtin;refine Ag.wpList_append (by rfl) _ _ _ (by rfl) w.heap.size 3 i0 (.int .i64 0) 1 8 underlying25 hi hz0 hz1 hz2 rfl (by decide) u6 (fl f true l q).length (vK .i64 (fl f true l q)) (by rfl) (HO.out.alloc _) ⟨wr.heap.size,0,none⟩ 1 1 [.int .i64 (p:Nat)] (by rfl) rfl (by decide) ?c1 ?c2 ?c3 ?c4 ?c5 ?_)
    case c1=>
     intro j u hj;have:=(aa.new wr [.int .i64 (p:Nat)] 3).cell j hj;match j,hj with
     | 0,_=>exact this
    case c2=>intro u hu;simp at hu;subst hu;rfl
    case c3=>have:=dY f true l q;unfold maxLen;omega
    case c4=>have:=dY f true l q;omega
    case c5=>simp;omega
    intro g8 cap8 w8 own8 hb8 hloc8 hlt8 hblk8 hs8;have hA:=below_alloc wr (.cells #[.int .i64 (p:Nat)] 3);have HB8:Hid (Below w.heap.size w w8):=(bg HB.out hA).trans (hb8.mono (by omega))
    have HP8:=ag (HP.out.onn (g:=g8) (cap:=cap8) hlt hA own8 (fun k hk hn=>hblk8 k (by simpa using hk) hn) (by simpa using hloc8) hp.out hBB.out);clear own8 hb8 hloc8 hlt8 hblk8 hs8 hA HB HP HO hBB a0 a2
    try simp only[Act.put,ah,List.set]
    go_wp2;exact⟨⟨q+1,by omega,by go_num,HP8,HB8⟩,by simp only[intOf];omega⟩
   .have HO:=ag HP.out.o1
    go_wp2_with (at_builtin;refine Ag.wpList_append (by rfl) _ _ _ (by rfl) w.heap.size 3 i0 (.int .i64 0) 1 8 underlying25 hi hz0 hz1 hz2 rfl (by decide) u5 (fl f false l q).length (vK .i64 (fl f false l q)) (by rfl) (HO.out.alloc _) ⟨wr.heap.size,0,none⟩ 1 1 [.int .i64 (p:Nat)] (by rfl) rfl (by decide) ?c1 ?c2 ?c3 ?c4 ?c5 ?_)
    case c1=>
     intro j u hj;have:=(aa.new wr [.int .i64 (p:Nat)] 3).cell j hj;match j,hj with
     | 0,_=>exact this
    case c2=>intro u hu;simp at hu;subst hu;rfl
    case c3=>have:=dY f false l q;unfold maxLen;omega
    case c4=>have:=dY f false l q;omega
    case c5=>simp;omega
    intro g8 cap8 w8 own8 hb8 hloc8 hlt8 hblk8 hs8;have hA:=below_alloc wr (.cells #[.int .i64 (p:Nat)] 3);have HB8:Hid (Below w.heap.size w w8):=(bg HB.out hA).trans (hb8.mono (by omega))
    have HP8:=ag (HP.out.offf (g:=g8) (cap:=cap8) hlt hA own8 (fun k hk hn=>hblk8 k (by simpa using hk) hn) (by simpa using hloc8) hp.out hBB.out);clear own8 hb8 hloc8 hlt8 hblk8 hs8 hA HB HP HO hBB a0 a2
    try simp only[Act.put,ah,List.set]
    go_wp2;exact⟨⟨q+1,by omega,by go_num,HP8,HB8⟩,by simp only[intOf];omega⟩
  .obtain rfl:q=l.length:=by omega
   have HO1:=ag HP.out.o1;have l1:=dY f false l l.length;have l2:=dY f true l l.length;obtain⟨xa,c,rfl,hsrc⟩:=kG HP.out.o2 (iT _ _).symm
   obtain⟨ya,yc,rfl,_⟩:=kG HP.out.o1 (iT _ _).symm;have HS:=ag hsrc;have zb:=HB.out.size;clear hsrc HP
   go_wp2_with (at_builtin;refine pB (by rfl) _ _ _ (by rfl) w.heap.size 3 i0 (.int .i64 0) 1 8 underlying25 hi hz0 hz1 hz2 rfl (by decide) _ (fl f false l l.length).length (vK .i64 (fl f false l l.length)) (by rfl) HO1.out xa (fl f true l l.length).length c (vK .i64 (fl f true l l.length)) (by rfl) (by rw[iT,Nat.mul_one]) HS.out ?c2 ?c3 ?c4 ?c5 ?_)
   case c2=>intro u hu;unfold vK at hu;obtain⟨_,_,rfl⟩:=List.mem_map.1 hu;rfl
   case c3=>unfold maxLen;omega
   case c4=>omega
   case c5=>omega
   intro ao cap w8 own8 hb8 _ _;try simp only[Act.put,ah,List.set]
   have eP:Mx.pt f l=fl f false l l.length++fl f true l l.length:=by unfold Mx.pt fl;rw[List.take_length]
   have HF:Hid ((fl f false l l.length).length+(fl f true l l.length).length=(Mx.pt f l).length/\w8.ownsRow w.heap.size 3 1 (.slice ao ((fl f false l l.length).length+(fl f true l l.length).length) cap) ((fl f false l l.length).length+(fl f true l l.length).length) (vK .i64 (Mx.pt f l))/\Below w.heap.size w w8):=by
    refine⟨by rw[eP,List.length_append],?_,HB.out.trans (hb8.mono (Nat.le_refl _))⟩;rw[eP,gF];exact own8
   clear own8 hb8 HO1 HS HB eP;go_wp2;go_ret;exact⟨ao,_,cap,rfl,HF.out⟩
theorem AZ(cs:List Value)(a:cQ)(w:World)(h:cH w cs a):
  Calls prog 168 #[.agg cs.toArray] w fun e w'=>∃bo bc,e=.returned (.tuple #[.agg #[.int .i64 (kBN7 a),.slice bo (kBX7 a).length bc],.bool (kOk7 a)])/\Wd w' bo (kBX7 a)/\(kBX7 a).length<=bc/\Below w.heap.size w w':=by
 obtain⟨⟨ao,cap,so,sc,tO,tc,rfl,h⟩,xl,sl,tl⟩:=h;refine mr (yq a.N ao a.xs cap so a.S sc tO a.T tc w h.x h.f h.c h.s sl h.t tl) fun w' hb=>?_
 exact⟨_,_,rfl,(AG a.N a.S a.T h.x).keep hb,AJ a.N a.xs a.S a.T cap h.c,hb⟩
theorem A0(cs:List Value)(a:cQ)(w:World)(h:cH w cs a):
  Qq 71 #[.agg cs.toArray] w (.int .i64 (kZ7 a)):=by
 obtain⟨⟨ao,cap,so,sc,tO,tc,rfl,h⟩,xl,sl,tl⟩:=h;exact yu a.N ao a.xs cap so a.S sc tO a.T tc w h.x h.f h.c h.s sl h.t tl
theorem A8(N:Int)(ao:Option Addr)(xs:List Nat)(cap:Nat)(w:World)(hN:aD N)(hx:Wd w ao xs)(hf:aA xs)(hcap:xs.length<=cap)(hl:xs.length<=1048576):
  Calls prog 61 #[.agg #[.int .i64 N,.slice ao xs.length cap]] w fun e w'=>∃cs:List Value,e=.returned (.tuple #[.agg cs.toArray,.int .i64 (kE7 N xs)])/\cH w' cs (kB7 N xs)/\NF w.heap.size 2 cs/\Below w.heap.size w w':=by
 refine(zu N ao xs cap w hx hf hcap).mono ?_;rintro e w' ⟨bo,bc,so,sc,tO,tc,rfl,ho,hb⟩;exact⟨_,rfl,ho.ki N xs hN hf hl,cW ho.sn ho.tn,hb⟩
def ib(o:Option (List Nat))(w:World)(e:Ending)(w':World):Prop:=
 match o with
 | none=>e=.returned (.tuple #[.slice none 0 0,.bool false])/\Below w.heap.size w w'
 | some l=>∃so sc,e=.returned (.tuple #[.slice so l.length sc,.bool true])/\Nd w' so (lz l)/\l.length<=sc/\Below w.heap.size w w'
theorem FF(a:FA)(h:¬((0<=a.N/\a.N<=1048576/\0<=a.M/\a.M<=a.N)/\aP a.k a.V a.LM a.xs=true/\am a.H a.ys=true/\((plc (bitAt a.ys) a.H.toNat).length:Int)=a.M/\(wdF a.N.toNat a.M.toNat=0\/(((List.range a.k.toNat).map (numAt a.V.toNat a.xs)).length:Int)=a.M))):dv a=none:=by
 unfold dv;exact if_neg h
theorem yF(N M k V LM H:Int)(ao:Option Addr)(xs:List Nat)(cap:Nat)(qo:Option Addr)(ys:List Nat)(dap:Nat)(w:World)(hx:Wd w ao xs)(fx:aA xs)(hy:Wd w qo ys)(fy:aA ys)(h:¬((0<=N/\N<=1048576/\0<=M/\M<=N)/\aP k V LM xs=true/\am H ys=true)):
  Calls prog 191 #[.agg #[.int .i64 N,.int .i64 M,.int .i64 k,.int .i64 V,.int .i64 LM,.slice ao xs.length cap,.int .i64 H,.slice qo ys.length dap]] w (ib none w):=by
 unfold ib
 have C1:Hid (Qz w 189 #[.agg #[.int .i64 k,.int .i64 V,.int .i64 LM,.slice ao xs.length cap]] (.bool (aP k V LM xs))):=fun w0 hb=>iY k V LM ao xs cap w0 (hx.keep hb) fx
 have C2:Hid (Qz w 64 #[.agg #[.int .i64 H,.slice qo ys.length dap]] (.bool (am H ys))):=fun w0 hb=>du H qo ys dap w0 (hy.keep hb) fy
 obtain⟨W,hW⟩:∃W,W=w.alloc (.cells #[.int .i64 N,.int .i64 M,.int .i64 k,.int .i64 V,.int .i64 LM,.slice ao xs.length cap,.int .i64 H,.slice qo ys.length dap] 61):=⟨_,rfl⟩;have bW:=ba hW;have B1:=bE hW
 clear hx hy fx fy;by_cases n0:N<0
 .clear C1 C2 h;go_enter func191,ntmps191;go_wp2;go_ret2;rw[<-hW];exact⟨rfl,bW⟩
 by_cases n1:1048576<N
 .clear C1 C2 h;go_enter func191,ntmps191;go_wp2;go_ret2;rw[<-hW];exact⟨rfl,bW⟩
 by_cases m0:M<0
 .clear C1 C2 h;go_enter func191,ntmps191;go_wp2;go_ret2;rw[<-hW];exact⟨rfl,bW⟩
 by_cases m1:N<M
 .clear C1 C2 h;go_enter func191,ntmps191;go_wp2;go_ret2;rw[<-hW];exact⟨rfl,bW⟩
 cases hk:aP k V LM xs with
 | false=>
  rw[hk]at C1;clear C2 h hk;go_enter func191,ntmps191;go_wp2_with fail;rw[<-hW];refine mr (C1.out _ bW) fun w1 hb=>?_;have bw1:=bg bW hb;clear hW hb;go_wp2;go_ret2;exact⟨rfl,bw1⟩
 | true=>
  have hc:am H ys=false:=by
   cases hc:am H ys with
   | false=>rfl
   | true=>exact absurd ⟨by omega,hk,hc⟩ h
  rw[hk]at C1;rw[hc]at C2;clear h hk hc;go_enter func191,ntmps191;go_wp2_with fail;rw[<-hW];refine mr (C1.out _ bW) fun w1 hb=>?_;have bw1:=bg bW hb;replace B1:=B1.kept hb
  have q6:=B1.cell 6 rfl;have q7:=B1.cell 7 rfl;clear hW hb;go_wp2_with fail;refine mr (C2.out _ bw1) fun w2 hb=>?_;have bw2:=bg bw1 hb;clear hb;go_wp2;go_ret2;exact⟨rfl,bw2⟩
theorem gy{p:Prop}(h:p):Hid p:=h
theorem xw(DD y p:Nat)(h:p=DD+y):(DD:Int)+(y:Int)=(p:Int):=by omega
theorem DP(DD y p:Nat)(h:p=DD+y)(h1:DD<=1099511627776)(h2:y<1048576):p<=1099512676352:=by omega
theorem yD(n mm kn vn hh:Nat)(LM:Int)(ao:Option Addr)(xs:List Nat)(cap:Nat)(qo:Option Addr)(ys:List Nat)(dap:Nat)(w:World)(hx:Wd w ao xs)(fx:aA xs)(hy:Wd w qo ys)(fy:aA ys)(hn:n<=1048576)(hmn:mm<=n)(ik:aP (kn:Int) (vn:Int) LM xs=true)(ck:am (hh:Int) ys=true):
  Calls prog 191 #[.agg #[.int .i64 n,.int .i64 mm,.int .i64 kn,.int .i64 vn,.int .i64 LM,.slice ao xs.length cap,.int .i64 hh,.slice qo ys.length dap]] w (ib (dv ⟨n,mm,kn,vn,LM,xs,hh,ys⟩) w):=by
 obtain⟨i3,hi3,za3,zb3,zc3⟩:=info_parts ux;obtain⟨_,_,_,_,_,_,lm1,knl⟩:=dP _ _ _ _ ik;obtain⟨_,hhl,_,_⟩:=bj _ _ ck
 have C1:Hid (Qz w 189 #[.agg #[.int .i64 kn,.int .i64 vn,.int .i64 LM,.slice ao xs.length cap]] (.bool true)):=fun w0 hb=>by
  have:=iY kn vn LM ao xs cap w0 (hx.keep hb) fx;rw[ik]at this;exact this
 have C2:Hid (Qz w 64 #[.agg #[.int .i64 hh,.slice qo ys.length dap]] (.bool true)):=fun w0 hb=>by
  have:=du hh qo ys dap w0 (hy.keep hb) fy;rw[ck]at this;exact this
 have C3:Hid (∀w0,Qq 164 #[.int .i64 n,.int .i64 mm] w0 (.int .i64 (wdF n mm:Nat))):=fun w0=>u_ n mm hn hmn w0
 have C4:Hid (∀w0,Below w.heap.size w w0->Calls prog 207 #[.agg #[.int .i64 kn,.int .i64 vn,.int .i64 LM,.slice ao xs.length cap]] w0 fun e w'=>∃lo' lc,e=.returned (.slice lo' kn lc)/\Wd w' lo' ((List.range kn).map (numAt vn xs))/\Below w0.heap.size w0 w'):=fun w0 hb=>by
  refine(sk LM kn vn ao xs cap w0 (hx.keep hb) fx ik).mono ?_;rintro e w' ⟨v,rfl,ho,hb2⟩;obtain⟨lo',lc,rfl,_,_⟩:=Ap.owns_shape ho;exact⟨lo',lc,rfl,rx ho,hb2⟩
 have C5:Hid (∀w0,Below w.heap.size w w0->Calls prog 112 #[.agg #[.int .i64 hh,.slice qo ys.length dap]] w0 fun e w'=>∃ho' hc,e=.returned (.slice ho' (plc (bitAt ys) hh).length hc)/\Nd w' ho' (lz (plc (bitAt ys) hh))/\Below w0.heap.size w0 w'):=fun w0 hb=>by
  refine(sZ hh qo ys dap w0 (hy.keep hb) ck).mono ?_;rintro e w' ⟨v,rfl,ho,hb2⟩;obtain⟨ho',hc,rfl,_,_⟩:=Ap.owns_shape ho;exact⟨ho',hc,rfl,kH ho,hb2⟩
 have HR:Hid (dv ⟨n,mm,kn,vn,LM,xs,hh,ys⟩=if ((plc (bitAt ys) hh).length=mm)/\(wdF n mm=0\/kn=mm)then bJ n (wdF n mm) ((List.range kn).map (numAt vn xs)) (plc (bitAt ys) hh) (plc (bitAt ys) hh).length else none):=by
  show dv _=_;unfold dv;simp only[Int.toNat_natCast,List.length_map,List.length_range];by_cases c:(plc (bitAt ys) hh).length=mm/\(wdF n mm=0\/kn=mm)
  .rw[if_pos c,if_pos ⟨⟨by omega,by omega,by omega,by omega⟩,ik,ck,by omega,by omega⟩]
  .rw[if_neg c,if_neg (fun h=>c ⟨by omega,by omega⟩)]
 have RS:=ii (bitAt ys) hh;have w20:wdF n mm<=20:=fW n mm (by omega)
 have fL:aA ((List.range kn).map (numAt vn xs)):=by
  obtain⟨_,v64,_⟩:=dP _ _ _ _ ik;exact Fl _ _ fun i=>BG vn (by omega) xs i
 have lL:((List.range kn).map (numAt vn xs)).length=kn:=by simp
 rw[HR.out]
 obtain⟨OO,hOO⟩:∃OO,Hid (OO=if ((plc (bitAt ys) hh).length=mm)/\(wdF n mm=0\/kn=mm)then bJ n (wdF n mm) ((List.range kn).map (numAt vn xs)) (plc (bitAt ys) hh) (plc (bitAt ys) hh).length else none):=⟨_,rfl⟩
 rw[<-hOO.out]
 obtain⟨W,hW⟩:∃W,W=w.alloc (.cells #[.int .i64 n,.int .i64 mm,.int .i64 kn,.int .i64 vn,.int .i64 LM,.slice ao xs.length cap,.int .i64 hh,.slice qo ys.length dap] 61):=⟨_,rfl⟩
 have bW:=ba hW;have B1:=bE hW;have i1:¬(n:Int)<0:=by omega
 have i2:¬(1048576:Int)<(n:Int):=by omega
 have i4:¬(mm:Int)<0:=by omega
 have i5:¬(n:Int)<(mm:Int):=by omega
 clear hx hy fx fy ik ck HR;generalize (List.range kn).map (numAt vn xs)=lo at *;generalize plc (bitAt ys) hh=hi at *;generalize wdF n mm=v at *;go_enter func191,ntmps191;go_wp2_with fail;rw[<-hW]
 refine mr (C1.out _ bW) fun w1 hb=>?_;have bw1:=bg bW hb;replace B1:=B1.kept hb;have q0:=B1.cell 0 rfl;have q1:=B1.cell 1 rfl;have q2:=B1.cell 2 rfl;have q3:=B1.cell 3 rfl
 have q4:=B1.cell 4 rfl;have q5:=B1.cell 5 rfl;have q6:=B1.cell 6 rfl;have q7:=B1.cell 7 rfl;clear hb hW bW C1;go_wp2_with fail;refine mr (C2.out _ bw1) fun w2 hb=>?_;have bw2:=bg bw1 hb
 replace B1:=B1.kept hb;clear hb bw1 C2 q0 q1 q2 q3 q4 q5 q6 q7;have q0:=B1.cell 0 rfl;have q1:=B1.cell 1 rfl;have q2:=B1.cell 2 rfl;have q3:=B1.cell 3 rfl;have q4:=B1.cell 4 rfl;have q5:=B1.cell 5 rfl
 have q6:=B1.cell 6 rfl;have q7:=B1.cell 7 rfl;go_wp2_with fail;refine mr (C3.out _) fun w3 hb=>?_;have bw3:=bg bw2 hb;replace B1:=B1.kept hb;clear hb bw2 C3 q0 q1 q2 q3 q4 q5 q6 q7
 have q0:=B1.cell 0 rfl;have q1:=B1.cell 1 rfl;have q2:=B1.cell 2 rfl;have q3:=B1.cell 3 rfl;have q4:=B1.cell 4 rfl;have q5:=B1.cell 5 rfl;have q6:=B1.cell 6 rfl;have q7:=B1.cell 7 rfl;go_wp2_with fail
 refine(C4.out _ bw3).mono ?_;rintro e w4 ⟨lo',lc,rfl,hLo,hb⟩;have bw4:=bg bw3 hb;replace B1:=B1.kept hb;clear hb bw3 C4 q0 q1 q2 q3 q4 q5 q6 q7;have q0:=B1.cell 0 rfl;have q1:=B1.cell 1 rfl
 have q2:=B1.cell 2 rfl;have q3:=B1.cell 3 rfl;have q4:=B1.cell 4 rfl;have q5:=B1.cell 5 rfl;have q6:=B1.cell 6 rfl;have q7:=B1.cell 7 rfl;go_wp2_with fail;refine(C5.out _ bw4).mono ?_
 rintro e w5 ⟨ho',hc,rfl,hHi,hb⟩;have bw5:=bg bw4 hb;replace B1:=B1.kept hb;replace hLo:=hLo.keep hb;clear hb bw4 C5 q0 q1 q2 q3 q4 q5 q6 q7;have q1:=B1.cell 1 rfl;by_cases e1:hi.length=mm
 .have e12:((hi.length:Int) != (mm:Int))=false:=by simp[e1]
  by_cases e2:v=0\/kn=mm
  .have HO:Hid (OO=bJ n v lo hi hi.length):=by
    show OO=_;rw[hOO.out,if_pos ⟨e1,e2⟩]
   clear hOO;have z5:=bw5.size;subst e1;have vv:(v:Int)<64:=by omega
   by_cases hv0:v=0
   .have nv1:¬(0:Int)<(v:Int):=by omega
    have PV:Hid (∀q,dX v lo hi q=gt hi q-q):=fun q=>by unfold dX;rw[hv0];simp
    go_wp2
    go_loopw [7,8] (fun t i wr=>∃(q:Nat) (out:List Nat) (so:Option Addr) (sc:Nat),q<=hi.length/\i=.int .i64 q/\t=.slice so q sc/\q<=sc/\Hid (bJ n v lo hi q=some out)/\wr.ownsRow w5.heap.size 3 1 (.slice so q sc) q (lv out)/\Below w5.heap.size w5 wr) (fun _ i _=>hi.length-(intOf i).toNat)
    case atStart=>exact⟨0,[],none,0,Nat.zero_le _,rfl,rfl,Nat.le_refl _,rfl,World.ownsRow_nil _ _ _ _,Below.refl _ _⟩
    case round=>
     obtain⟨q,out,so,sc,hq,rfl,rfl,hsc,HD,hown,hwr⟩:=hrel;obtain⟨lo_,hrise⟩:=lp n v lo hi q out HD.out;by_cases hlt:q<hi.length
     .have hlt2:(q:Int)<(hi.length:Int):=by omega
      obtain⟨b,off,rfl,hbl,hcel⟩:=hHi (by rw[fN];omega);have cq:=(hwr.cell (p:=⟨b,off+q,none⟩) hbl).trans (hcel q (by rw[fN];exact hlt));rw[j0]at cq;have hge:=RS.step q 0 (by omega)
      rw[Nat.zero_add]at hge;have hll:=RS.1 q hlt;obtain⟨d,hd⟩:∃d,Hid (d=gt hi q-q):=⟨_,rfl⟩;have hd2:(gt hi q:Int)-(q:Int)=(d:Int):=by rw[hd.out];omega
      have dl:d<=1048576:=by rw[hd.out];omega
      have n0:=(B1.kept hwr).cell 0 rfl;have PQ:=PV.out q;obtain⟨p,hp⟩:∃p,Hid (p=dX v lo hi q):=⟨_,rfl⟩;have hpd:p=d:=by rw[hp.out,PQ,hd.out]
      have FS:Hid (bJ n v lo hi (q+1)=if n<=p\/(0<q/\p<=gt out (q-1))then none else some (out++[p])):=by
       show bJ n v lo hi (q+1)=_;rw[bJ,HD.out,hp.out]
      have FN:Hid (bJ n v lo hi (q+1)=none->OO=none):=fun h=>by
       rw[HO.out];have:=Go.Proofs.YtleegaihbgbcjabGreatDoor.u9 n v lo hi (q+1) h (hi.length-(q+1));rwa [show q+1+(hi.length-(q+1))=hi.length by omega]at this
      have bwr:=bw5.trans (hwr.mono z5);subst hpd;clear hd PQ;by_cases a1:n<=p
      .obtain rfl:OO=none:=FN.out (by rw[FS.out,if_pos (.inl a1)]);have a12:(n:Int)<=(p:Int):=by omega
       go_wp2;go_ret2;exact(show ib none w _ _ from⟨rfl,bwr⟩)
      .have a12:¬(n:Int)<=(p:Int):=by omega
       by_cases a2:0<q
       .have a22:(0:Int)<(q:Int):=by omega
        have nd:=kH hown;obtain⟨b2,off2,rfl,hbl2,hcel2⟩:=nd (by rw[fN];omega);have co:=hcel2 (q-1) (by rw[fN];omega);rw[j0]at co
        have q11:(q:Int)-1=((q-1:Nat):Int):=by omega
        have q12:(((q-1:Nat):Nat):Int)<(q:Int):=by omega
        by_cases a3:p<=gt out (q-1)
        .obtain rfl:OO=none:=FN.out (by rw[FS.out,if_pos (.inr ⟨a2,a3⟩)]);have a32:(p:Int)<=(gt out (q-1):Int):=by omega
         go_wp2;go_ret2;exact(show ib none w _ _ from⟨rfl,bwr⟩)
        .have a32:¬(p:Int)<=(gt out (q-1):Int):=by omega
         have HD2:Hid (bJ n v lo hi (q+1)=some (out++[p])):=by
          show bJ n v lo hi (q+1)=_;rw[FS.out,if_neg (by omega)]
         have hq5:=hwr.size
         go_wp2_with (at_builtin;refine Ap.wpList_append_x (by rfl) _ _ _ (by rfl) w5.heap.size 3 i3 (.int .i64 0) 8 underlying25 hi3 za3 zb3 zc3 rfl (.slice (some ⟨b2,off2,none⟩) q sc) q (lv out) (by rfl) (hown.alloc _) (some ⟨wr.heap.size,0,none⟩) 1 1 [.int .i64 (p:Nat)] (by rfl) rfl ?c1_11 ?c2_11 ?c3_11 ?c4_11 ?c5_11 ?_)
         case c2_11=>first | rfl | (intro u hu;simp at hu;subst hu;rfl)
         case c3_11=>unfold maxLen;omega
         case c4_11=>omega
         case c5_11=>first | omega | (simp;omega)
         intro so2 sc2 w9 own9 hle9 hB9 hblk9 hkeep9 hsz9;rw[me]at own9;have hw9:Below w5.heap.size w5 w9:=(hwr.trans ((below_alloc wr _).mono hwr.size)).trans hB9;have HX:=gy own9
         clear own9 hB9 hblk9 hkeep9 hown FS FN HO hcel B1 bwr;go_wp2;exact⟨⟨q+1,out++[p],so2,sc2,by omega,by go_num,rfl,hle9,HD2,HX.out,hw9⟩,by simp only[intOf];omega⟩
       .have a22:¬(0:Int)<(q:Int):=by omega
        have HD2:Hid (bJ n v lo hi (q+1)=some (out++[p])):=by
         show bJ n v lo hi (q+1)=_;rw[FS.out,if_neg (by omega)]
        have hq5:=hwr.size
        go_wp2_with (at_builtin;refine Ap.wpList_append_x (by rfl) _ _ _ (by rfl) w5.heap.size 3 i3 (.int .i64 0) 8 underlying25 hi3 za3 zb3 zc3 rfl (.slice so q sc) q (lv out) (by rfl) (hown.alloc _) (some ⟨wr.heap.size,0,none⟩) 1 1 [.int .i64 (p:Nat)] (by rfl) rfl ?c1_21 ?c2_21 ?c3_21 ?c4_21 ?c5_21 ?_)
        case c2_21=>first | rfl | (intro u hu;simp at hu;subst hu;rfl)
        case c3_21=>unfold maxLen;omega
        case c4_21=>omega
        case c5_21=>first | omega | (simp;omega)
        intro so2 sc2 w9 own9 hle9 hB9 hblk9 hkeep9 hsz9;rw[me]at own9;have hw9:Below w5.heap.size w5 w9:=(hwr.trans ((below_alloc wr _).mono hwr.size)).trans hB9;have HX:=gy own9
        clear own9 hB9 hblk9 hkeep9 hown FS FN HO hcel B1 bwr;go_wp2;exact⟨⟨q+1,out++[p],so2,sc2,by omega,by go_num,rfl,hle9,HD2,HX.out,hw9⟩,by simp only[intOf];omega⟩
     .obtain rfl:q=hi.length:=by omega
      have HO2:OO=some out:=HO.out.trans HD.out;subst HO2;have nd:=kH hown;have bwr:=bw5.trans (hwr.mono z5);go_wp2;go_ret2;exact(show ib (some out) w _ _ from⟨so,sc,by rw[lo_];rfl,nd,by omega,bwr⟩)
   .have nv1:(0:Int)<(v:Int):=by omega
    have e4:((kn:Int) != (hi.length:Int))=false:=by simp;omega
    have hkn:kn=hi.length:=by omega
    have PV:Hid (∀q,dX v lo hi q=(gt hi q-q)*2^v+gt lo q%2^v):=fun q=>by unfold dX;rw[if_neg hv0]
    go_wp2
    go_loopw [7,8] (fun t i wr=>∃(q:Nat) (out:List Nat) (so:Option Addr) (sc:Nat),q<=hi.length/\i=.int .i64 q/\t=.slice so q sc/\q<=sc/\Hid (bJ n v lo hi q=some out)/\wr.ownsRow w5.heap.size 3 1 (.slice so q sc) q (lv out)/\Below w5.heap.size w5 wr) (fun _ i _=>hi.length-(intOf i).toNat)
    case atStart=>exact⟨0,[],none,0,Nat.zero_le _,rfl,rfl,Nat.le_refl _,rfl,World.ownsRow_nil _ _ _ _,Below.refl _ _⟩
    case round=>
     obtain⟨q,out,so,sc,hq,rfl,rfl,hsc,HD,hown,hwr⟩:=hrel;obtain⟨lo_,hrise⟩:=lp n v lo hi q out HD.out;by_cases hlt:q<hi.length
     .have hlt2:(q:Int)<(hi.length:Int):=by omega
      obtain⟨b,off,rfl,hbl,hcel⟩:=hHi (by rw[fN];omega);have cq:=(hwr.cell (p:=⟨b,off+q,none⟩) hbl).trans (hcel q (by rw[fN];exact hlt));rw[j0]at cq;have hge:=RS.step q 0 (by omega)
      rw[Nat.zero_add]at hge;have hll:=RS.1 q hlt;obtain⟨d,hd⟩:∃d,Hid (d=gt hi q-q):=⟨_,rfl⟩;have hd2:(gt hi q:Int)-(q:Int)=(d:Int):=by rw[hd.out];omega
      have dl:d<=1048576:=by rw[hd.out];omega
      have n0:=(B1.kept hwr).cell 0 rfl;have PQ:=gy (PV.out q);obtain⟨p,hp⟩:∃p,Hid (p=dX v lo hi q):=⟨_,rfl⟩;obtain⟨b3,off3,rfl,hbl3,hcel3⟩:=hLo (by omega)
      have cl:=(hwr.cell (p:=⟨b3,off3+q,none⟩) hbl3).trans (hcel3 q (by omega));have xl:=fL q;obtain⟨x,hx⟩:∃x,Hid (x=gt lo q):=⟨_,rfl⟩;rw[<-hx.out]at cl xl
      obtain⟨P2,hP2⟩:∃P2:Nat,Hid ((2:Nat)^v=P2):=⟨2^v,(rfl:(2:Nat)^v=2^v)⟩;have p20:P2<=1048576:=by rw[<-hP2.out];exact Nat.pow_le_pow_right (show 0<2 by decide) w20
      have p00:0<P2:=by rw[<-hP2.out];exact Nat.two_pow_pos v
      have pw:IntKind.u64.wrap ((2:Int)^v)=(P2:Int):=by rw[Bit.shl_one v (by omega),hP2.out]
      have p0:((P2:Int)==0)=false:=by simp;omega
      obtain⟨y,hy_⟩:∃y,Hid (y=x%P2):=⟨_,rfl⟩;have yl:y<1048576:=by rw[hy_.out];exact Nat.lt_of_lt_of_le (Nat.mod_lt _ p00) p20
      have ym:(x:Int)%(P2:Int)=(y:Int):=by rw[hy_.out];omega
      have yt:(x:Int).tmod (P2:Int)=(y:Int):=by rw[Int.tmod_eq_emod_of_nonneg (by omega)];exact ym
      obtain⟨DD,hDD⟩:∃DD,Hid (DD=d*P2):=⟨_,rfl⟩;have dl2:DD<=1099511627776:=by rw[hDD.out];exact Nat.le_trans (Nat.mul_le_mul dl p20) (by decide)
      have dw:(d:Int)*2^v=(DD:Int):=by rw[hDD.out,<-hP2.out,Int.natCast_mul,Int.natCast_pow];rfl
      have hpn:Hid (p=DD+y):=by
       show p=DD+y;rw[hDD.out,hy_.out,hp.out,PQ.out,hP2.out,hd.out,hx.out]
      have hps:=xw DD y p hpn.out;have pl2:=DP DD y p hpn.out dl2 yl;clear hcel3
      have FS:Hid (bJ n v lo hi (q+1)=if n<=p\/(0<q/\p<=gt out (q-1))then none else some (out++[p])):=by
       show bJ n v lo hi (q+1)=_;rw[bJ,HD.out,hp.out]
      have FN:Hid (bJ n v lo hi (q+1)=none->OO=none):=fun h=>by
       rw[HO.out];have:=Go.Proofs.YtleegaihbgbcjabGreatDoor.u9 n v lo hi (q+1) h (hi.length-(q+1));rwa [show q+1+(hi.length-(q+1))=hi.length by omega]at this
      have bwr:=bw5.trans (hwr.mono z5);clear hd PQ;by_cases a1:n<=p
      .obtain rfl:OO=none:=FN.out (by rw[FS.out,if_pos (.inl a1)]);have a12:(n:Int)<=(p:Int):=by omega
       go_wp2;go_ret2;exact(show ib none w _ _ from⟨rfl,bwr⟩)
      .have a12:¬(n:Int)<=(p:Int):=by omega
       by_cases a2:0<q
       .have a22:(0:Int)<(q:Int):=by omega
        have nd:=kH hown;obtain⟨b2,off2,rfl,hbl2,hcel2⟩:=nd (by rw[fN];omega);have co:=hcel2 (q-1) (by rw[fN];omega);rw[j0]at co
        have q11:(q:Int)-1=((q-1:Nat):Int):=by omega
        have q12:(((q-1:Nat):Nat):Int)<(q:Int):=by omega
        by_cases a3:p<=gt out (q-1)
        .obtain rfl:OO=none:=FN.out (by rw[FS.out,if_pos (.inr ⟨a2,a3⟩)]);have a32:(p:Int)<=(gt out (q-1):Int):=by omega
         go_wp2;go_ret2;exact(show ib none w _ _ from⟨rfl,bwr⟩)
        .have a32:¬(p:Int)<=(gt out (q-1):Int):=by omega
         have HD2:Hid (bJ n v lo hi (q+1)=some (out++[p])):=by
          show bJ n v lo hi (q+1)=_;rw[FS.out,if_neg (by omega)]
         have hq5:=hwr.size
         go_wp2_with (at_builtin;refine Ap.wpList_append_x (by rfl) _ _ _ (by rfl) w5.heap.size 3 i3 (.int .i64 0) 8 underlying25 hi3 za3 zb3 zc3 rfl (.slice (some ⟨b2,off2,none⟩) q sc) q (lv out) (by rfl) (hown.alloc _) (some ⟨wr.heap.size,0,none⟩) 1 1 [.int .i64 (p:Nat)] (by rfl) rfl ?c1_11v ?c2_11v ?c3_11v ?c4_11v ?c5_11v ?_)
         case c2_11v=>first | rfl | (intro u hu;simp at hu;subst hu;rfl)
         case c3_11v=>unfold maxLen;omega
         case c4_11v=>omega
         case c5_11v=>first | omega | (simp;omega)
         intro so2 sc2 w9 own9 hle9 hB9 hblk9 hkeep9 hsz9;rw[me]at own9;have hw9:Below w5.heap.size w5 w9:=(hwr.trans ((below_alloc wr _).mono hwr.size)).trans hB9;have HX:=gy own9
         clear own9 hB9 hblk9 hkeep9 hown FS FN HO hcel B1 bwr;go_wp2;exact⟨⟨q+1,out++[p],so2,sc2,by omega,by go_num,rfl,hle9,HD2,HX.out,hw9⟩,by simp only[intOf];omega⟩
       .have a22:¬(0:Int)<(q:Int):=by omega
        have HD2:Hid (bJ n v lo hi (q+1)=some (out++[p])):=by
         show bJ n v lo hi (q+1)=_;rw[FS.out,if_neg (by omega)]
        have hq5:=hwr.size
        go_wp2_with (at_builtin;refine Ap.wpList_append_x (by rfl) _ _ _ (by rfl) w5.heap.size 3 i3 (.int .i64 0) 8 underlying25 hi3 za3 zb3 zc3 rfl (.slice so q sc) q (lv out) (by rfl) (hown.alloc _) (some ⟨wr.heap.size,0,none⟩) 1 1 [.int .i64 (p:Nat)] (by rfl) rfl ?c1_21v ?c2_21v ?c3_21v ?c4_21v ?c5_21v ?_)
        case c2_21v=>first | rfl | (intro u hu;simp at hu;subst hu;rfl)
        case c3_21v=>unfold maxLen;omega
        case c4_21v=>omega
        case c5_21v=>first | omega | (simp;omega)
        intro so2 sc2 w9 own9 hle9 hB9 hblk9 hkeep9 hsz9;rw[me]at own9;have hw9:Below w5.heap.size w5 w9:=(hwr.trans ((below_alloc wr _).mono hwr.size)).trans hB9;have HX:=gy own9
        clear own9 hB9 hblk9 hkeep9 hown FS FN HO hcel B1 bwr;go_wp2;exact⟨⟨q+1,out++[p],so2,sc2,by omega,by go_num,rfl,hle9,HD2,HX.out,hw9⟩,by simp only[intOf];omega⟩
     .obtain rfl:q=hi.length:=by omega
      have HO2:OO=some out:=HO.out.trans HD.out;subst HO2;have nd:=kH hown;have bwr:=bw5.trans (hwr.mono z5);go_wp2;go_ret2;exact(show ib (some out) w _ _ from⟨so,sc,by rw[lo_];rfl,nd,by omega,bwr⟩)
  .obtain rfl:OO=none:=by rw[hOO.out,if_neg (fun c=>e2 c.2)]
   have e3:(0:Int)<(v:Int):=by omega
   have e4:((kn:Int) != (mm:Int))=true:=by simp;omega
   clear hOO;go_wp2;go_ret2;exact(show ib none w _ _ from⟨rfl,bw5⟩)
 .obtain rfl:OO=none:=by rw[hOO.out,if_neg (fun c=>e1 c.1)]
  have e12:((hi.length:Int) != (mm:Int))=true:=by simp;omega
  clear hOO;go_wp2;go_ret2;exact(show ib none w _ _ from⟨rfl,bw5⟩)
theorem Ef(aN aW aM:Int)(ao:Option Addr)(ax:List Nat)(ac:Nat)(bN bW bM:Int)(bo:Option Addr)(bx:List Nat)(bc:Nat)(w:World)(hx:Wd w ao ax)(hy:Wd w bo bx)(hl:ax.length<=1048576):
  Qq 166 #[.agg #[.int .i64 aN,.int .i64 aW,.int .i64 aM,.slice ao ax.length ac],.agg #[.int .i64 bN,.int .i64 bW,.int .i64 bM,.slice bo bx.length bc]] w (.bool (decide (aN=bN)&&(decide (aW=bW)&&(decide (aM=bM)&&decide (ax=bx))))):=by
 obtain⟨W,hW⟩:∃W,W=(w.alloc (.cells #[.int .i64 aN,.int .i64 aW,.int .i64 aM,.slice ao ax.length ac] 57)).alloc (.cells #[.int .i64 bN,.int .i64 bW,.int .i64 bM,.slice bo bx.length bc] 57):=⟨_,rfl⟩
 have bZ:Below w.heap.size w W:=by rw[hW];exact(below_alloc w _).alloc (by simp) _
 have B1:=dH hW;have B2:=de hW
 have C1:Hid (∀w0,w0=W->Qq 165 #[.agg #[.int .i64 aM,.slice ao ax.length ac],.agg #[.int .i64 bM,.slice bo bx.length bc]] w0 (.bool (decide (aM=bM)&&decide (ax=bx)))):=fun w0 h=>by subst h;exact lV aM ao ax ac bM bo bx bc w0 (hx.keep bZ) (hy.keep bZ) hl
 generalize (decide (aM=bM)&&decide (ax=bx))=z at *;by_cases h1:aN=bN
 .by_cases h2:aW=bW
  .rw[decide_eq_true h1,decide_eq_true h2];subst h1 h2;go_enter func166,ntmps166;go_wp2_with fail;rw[<-hW];refine mr (C1.out _ rfl) fun w1 hb=>?_;have bw:=bg bZ hb;go_wp2;go_ret
   exact⟨by cases z<;>rfl,bw⟩
  .rw[decide_eq_true h1,decide_eq_false h2];have e2:(aW==bW)=false:=by simpa using h2
   subst h1
   have bw:Below w.heap.size w ((w.alloc (.cells #[.int .i64 aN,.int .i64 aW,.int .i64 aM,.slice ao ax.length ac] 57)).alloc (.cells #[.int .i64 aN,.int .i64 bW,.int .i64 bM,.slice bo bx.length bc] 57)):=(below_alloc w _).alloc (by simp) _
   clear C1 B1 B2 bZ hW W;go_enter func166,ntmps166;go_wp2;go_ret;exact⟨rfl,bw⟩
 .rw[decide_eq_false h1];have e1:(aN==bN)=false:=by simpa using h1
  have bw:Below w.heap.size w ((w.alloc (.cells #[.int .i64 aN,.int .i64 aW,.int .i64 aM,.slice ao ax.length ac] 57)).alloc (.cells #[.int .i64 bN,.int .i64 bW,.int .i64 bM,.slice bo bx.length bc] 57)):=(below_alloc w _).alloc (by simp) _
  clear C1 B1 B2 bZ hW W;go_enter func166,ntmps166;go_wp2;go_ret;exact⟨rfl,bw⟩
theorem vb(aN aM ak aV aL:Int)(ao:Option Addr)(ax:List Nat)(ac:Nat)(aH:Int)(aq:Option Addr)(ay:List Nat)(ad:Nat)(bN bM bk bV bL:Int)(bo:Option Addr)(bx:List Nat)(bc:Nat)(bH:Int)(bq:Option Addr)(by_:List Nat)(bd:Nat)(w:World)(hx:Wd w ao ax)(hbx:Wd w bo bx)(hy:Wd w aq ay)(hby:Wd w bq by_)(hl:ax.length<=1048576)(hly:ay.length<=1048576):
  Qq 116 #[.agg #[.int .i64 aN,.int .i64 aM,.int .i64 ak,.int .i64 aV,.int .i64 aL,.slice ao ax.length ac,.int .i64 aH,.slice aq ay.length ad],.agg #[.int .i64 bN,.int .i64 bM,.int .i64 bk,.int .i64 bV,.int .i64 bL,.slice bo bx.length bc,.int .i64 bH,.slice bq by_.length bd]] w (.bool (decide (aN=bN)&&(decide (aM=bM)&&((decide (ak=bk)&&(decide (aV=bV)&&(decide (aL=bL)&&decide (ax=bx))))&&(decide (aH=bH)&&decide (ay=by_)))))):=by
 obtain⟨W,hW⟩:∃W,W=(w.alloc (.cells #[.int .i64 aN,.int .i64 aM,.int .i64 ak,.int .i64 aV,.int .i64 aL,.slice ao ax.length ac,.int .i64 aH,.slice aq ay.length ad] 61)).alloc (.cells #[.int .i64 bN,.int .i64 bM,.int .i64 bk,.int .i64 bV,.int .i64 bL,.slice bo bx.length bc,.int .i64 bH,.slice bq by_.length bd] 61):=⟨_,rfl⟩
 have bZ:Below w.heap.size w W:=by rw[hW];exact(below_alloc w _).alloc (by simp) _
 have B1:=dH hW;have B2:=de hW
 have C1:Hid (∀w0,w0=W->Qq 166 #[.agg #[.int .i64 ak,.int .i64 aV,.int .i64 aL,.slice ao ax.length ac],.agg #[.int .i64 bk,.int .i64 bV,.int .i64 bL,.slice bo bx.length bc]] w0 (.bool (decide (ak=bk)&&(decide (aV=bV)&&(decide (aL=bL)&&decide (ax=bx)))))):=fun w0 h=>by subst h;exact Ef ak aV aL ao ax ac bk bV bL bo bx bc w0 (hx.keep bZ) (hbx.keep bZ) hl
 have C2:Hid (Qz w 165 #[.agg #[.int .i64 aH,.slice aq ay.length ad],.agg #[.int .i64 bH,.slice bq by_.length bd]] (.bool (decide (aH=bH)&&decide (ay=by_)))):=fun w0 h=>lV aH aq ay ad bH bq by_ bd w0 (hy.keep h) (hby.keep h) hly
 generalize (decide (ak=bk)&&(decide (aV=bV)&&(decide (aL=bL)&&decide (ax=bx))))=z1 at *;generalize (decide (aH=bH)&&decide (ay=by_))=z2 at *;clear hx hbx hy hby;by_cases h1:aN=bN
 .have e1:(aN==bN)=true:=by simpa using h1
  by_cases h2:aM=bM
  .have e2:(aM==bM)=true:=by simpa using h2
   rw[decide_eq_true h1,decide_eq_true h2];clear h1 h2;go_enter func116,ntmps116;go_wp2_with fail;rw[<-hW];refine mr (C1.out _ rfl) fun w1 hb=>?_;have bw:=bg bZ hb
   replace B1:=B1.kept hb;replace B2:=B2.kept hb;have p6:=B1.cell 6 rfl;have p7:=B1.cell 7 rfl;have q6:=B2.cell 6 rfl;have q7:=B2.cell 7 rfl;clear hb bZ hW C1;cases z1 with
   | false=>
    go_wp2;go_ret;exact⟨rfl,bw⟩
   | true=>
    go_wp2_with fail;refine mr (C2.out _ bw) fun w2 hb=>?_;have bw2:=bg bw hb;clear hb;go_wp2;go_ret;exact⟨by cases z2<;>rfl,bw2⟩
  .have e2:(aM==bM)=false:=by simpa using h2
   rw[decide_eq_false h2];clear C1 C2 B1 B2 h1 h2;go_enter func116,ntmps116;go_wp2;go_ret;rw[<-hW];exact⟨by simp,bZ⟩
 .have e1:(aN==bN)=false:=by simpa using h1
  rw[decide_eq_false h1];clear C1 C2 B1 B2 h1;go_enter func116,ntmps116;go_wp2;go_ret;rw[<-hW];exact⟨by simp,bZ⟩
theorem yE(N M k V LM:Int)(ao:Option Addr)(xs:List Nat)(cap:Nat)(H:Int)(qo:Option Addr)(ys:List Nat)(dap:Nat)(w:World)(hx:Wd w ao xs)(fx:aA xs)(hy:Wd w qo ys)(fy:aA ys):
  Calls prog 191 #[.agg #[.int .i64 N,.int .i64 M,.int .i64 k,.int .i64 V,.int .i64 LM,.slice ao xs.length cap,.int .i64 H,.slice qo ys.length dap]] w (ib (dv ⟨N,M,k,V,LM,xs,H,ys⟩) w):=by
 by_cases P:(0<=N/\N<=1048576/\0<=M/\M<=N)/\aP k V LM xs=true/\am H ys=true
 .obtain⟨⟨p1,p2,p3,p4⟩,p5,p6⟩:=P;obtain⟨v1,v2,v3,v4,v5,v6,v7,v8⟩:=dP _ _ _ _ p5;obtain⟨u1,u2,u3,u4⟩:=bj _ _ p6;obtain⟨n,rfl⟩:=Int.eq_ofNat_of_zero_le p1
  obtain⟨mm,rfl⟩:=Int.eq_ofNat_of_zero_le p3;obtain⟨kn,rfl⟩:=Int.eq_ofNat_of_zero_le v3;obtain⟨vn,rfl⟩:=Int.eq_ofNat_of_zero_le (show 0<=V by omega);obtain⟨hh,rfl⟩:=Int.eq_ofNat_of_zero_le u1
  exact yD n mm kn vn hh LM ao xs cap qo ys dap w hx fx hy fy (by omega) (by omega) p5 p6
 .rw[FF ⟨N,M,k,V,LM,xs,H,ys⟩ (fun h=>P ⟨h.1,h.2.1,h.2.2.1⟩)];exact yF N M k V LM H ao xs cap qo ys dap w hx fx hy fy P
def qZ(N:Int)(X:List Nat)(S:Bool)(w:World)(e:Ending)(w':World):Prop:=∃bo bc,e=.returned (.tuple #[.agg #[.int .i64 N,.slice bo X.length bc],.bool S])/\Wd w' bo X/\X.length<=bc/\Below w.heap.size w w'
theorem FE(a:FA)(l:List Nat)(h:dv a=some l):0<=a.N/\bi l a.N.toNat:=by
 unfold dv at h;simp only at h;split at h
 .rename_i c;exact⟨c.1.1,(lp _ _ _ _ _ _ h).2⟩
 .cases h
theorem FH(N M k V LM:Int)(ao:Option Addr)(xs:List Nat)(cap:Nat)(H:Int)(qo:Option Addr)(ys:List Nat)(dap:Nat)(w:World)(RC:Hid (Qz w 191 #[.agg #[.int .i64 N,.int .i64 M,.int .i64 k,.int .i64 V,.int .i64 LM,.slice ao xs.length cap,.int .i64 H,.slice qo ys.length dap]] (.tuple #[.slice none 0 0,.bool false]))):
  Qq 170 #[.agg #[.int .i64 N,.int .i64 M,.int .i64 k,.int .i64 V,.int .i64 LM,.slice ao xs.length cap,.int .i64 H,.slice qo ys.length dap]] w (.tuple #[.agg #[.int .i64 0,.slice none 0 0],.bool false]):=by
 obtain⟨W,hW⟩:∃W,W=(w.alloc (.cells #[.int .i64 N,.int .i64 M,.int .i64 k,.int .i64 V,.int .i64 LM,.slice ao xs.length cap,.int .i64 H,.slice qo ys.length dap] 61)).alloc (.cells #[.int .i64 0,.slice none 0 0] 53):=⟨_,rfl⟩
 have bW:=dt hW;have B1:=dH hW;have B2:=de hW;go_enter func170,ntmps170;go_wp2_with fail;rw[<-hW];refine mr (RC.out _ bW) fun w1 hb=>?_;have bw1:=bg bW hb
 replace B2:=B2.kept hb;clear hb bW hW RC B1;go_wp2_with (refine aJ (w.heap.size+1) [.int .i64 0,.slice none 0 0] [.int .i64 0,.slice none 0 0] rfl rfl B2 rfl iZ (by simp[Value.oneCell']) ?_);intro w3 B3 O3
 have HZ:=gy (And.intro B3 (bw1.trans (O3.below (Nat.le_succ _))));clear B3 O3 B2;go_wp2
 (try simp only[Exit.inBlock,Exit.then]);exact bodyPost_ret (a_ rfl (w.heap.size+1) _ rfl HZ.out.1 underlying53 iZ) rfl ⟨rfl,HZ.out.2⟩
theorem FG(n:Nat)(M k V LM:Int)(ao:Option Addr)(xs:List Nat)(cap:Nat)(H:Int)(qo:Option Addr)(ys:List Nat)(dap:Nat)(l:List Nat)(w:World)(hn:n<=3000)(hr:bi l n)(y1 y2 y3 y4 y5 y7:Int)(y6 y8:Nat)(S:Bool)
  (RC:Hid (∀w0,Below w.heap.size w w0->Calls prog 191 #[.agg #[.int .i64 n,.int .i64 M,.int .i64 k,.int .i64 V,.int .i64 LM,.slice ao xs.length cap,.int .i64 H,.slice qo ys.length dap]] w0 fun e w'=>∃so sc,e=.returned (.tuple #[.slice so l.length sc,.bool true])/\Nd w' so (lz l)/\l.length<=sc/\Below w0.heap.size w0 w'))
  (YP:World->Option Addr->Nat->Option Addr->Nat->Prop) (yk:∀w1 w2 yo yc zo zc,YP w1 yo yc zo zc->Below w1.heap.size w1 w2->YP w2 yo yc zo zc)
  (OC:Hid (∀w0 so sc,Nd w0 so (lz l)->Calls prog 111 #[.int .i64 n,.slice so l.length sc] w0 fun e w'=>∃yo yc zo zc,e=.returned (.tuple #[.agg #[.int .i64 y1,.int .i64 y2,.int .i64 y3,.int .i64 y4,.int .i64 y5,.slice yo y6 yc,.int .i64 y7,.slice zo y8 zc],.int .i64 0])/\YP w' yo yc zo zc/\Below w0.heap.size w0 w'))
  (SC:Hid (∀w0 yo yc zo zc,Below w.heap.size w w0->YP w0 yo yc zo zc->Qq 116 #[.agg #[.int .i64 n,.int .i64 M,.int .i64 k,.int .i64 V,.int .i64 LM,.slice ao xs.length cap,.int .i64 H,.slice qo ys.length dap],.agg #[.int .i64 y1,.int .i64 y2,.int .i64 y3,.int .i64 y4,.int .i64 y5,.slice yo y6 yc,.int .i64 y7,.slice zo y8 zc]] w0 (.bool S))):
  Calls prog 170 #[.agg #[.int .i64 n,.int .i64 M,.int .i64 k,.int .i64 V,.int .i64 LM,.slice ao xs.length cap,.int .i64 H,.slice qo ys.length dap]] w (qZ (if S=true then (n:Int)else 0) (if S=true then rowOf n (isIn l)else []) S w):=by
 obtain⟨i4,hi4,za4,zb4,zc4⟩:=info_parts uw
 obtain⟨W,hW⟩:∃W,W=(w.alloc (.cells #[.int .i64 n,.int .i64 M,.int .i64 k,.int .i64 V,.int .i64 LM,.slice ao xs.length cap,.int .i64 H,.slice qo ys.length dap] 61)).alloc (.cells #[.int .i64 0,.slice none 0 0] 53):=⟨_,rfl⟩
 have bW:=dt hW;have B1:=dH hW;have B2:=de hW;cases S with
 | false=>
  go_enter func170,ntmps170;go_wp2_with fail;rw[<-hW];refine(RC.out _ bW).mono ?_;rintro e w1 ⟨so,sc,rfl,hN,hsc,hb⟩;have bw1:=bg bW hb;replace B1:=B1.kept hb;replace B2:=B2.kept hb
  have q0:=B1.cell 0 rfl;clear hb bW hW RC;go_wp2_with fail;refine(OC.out _ _ _ hN).mono ?_;rintro e w2 ⟨yo,yc,zo,zc,rfl,hY,hb⟩;have bw2:=bg bw1 hb;replace B1:=B1.kept hb;replace B2:=B2.kept hb
  clear hb OC bw1 q0;have bA:=below_alloc w2 (.cells #[.int .i64 y1,.int .i64 y2,.int .i64 y3,.int .i64 y4,.int .i64 y5,.slice yo y6 yc,.int .i64 y7,.slice zo y8 zc] 61)
  have D6:=aa.new w2 [.int .i64 y1,.int .i64 y2,.int .i64 y3,.int .i64 y4,.int .i64 y5,.slice yo y6 yc,.int .i64 y7,.slice zo y8 zc] 61;have E1:=B1.kept bA;have E2:=B2.kept bA;have hY2:=yk _ _ _ _ _ _ hY bA
  have bw3:=bg bw2 bA;clear B1 B2 hY bA
  go_wp2_with (first | refine ca w.heap.size _ (by rfl) rfl E1 underlying61 fQ ?_ | refine ca w2.heap.size _ (by rfl) rfl D6 underlying61 fQ ?_);refine mr (SC.out _ _ _ _ _ bw3 hY2) fun w4 hb=>?_;have bw4:=bg bw3 hb;replace E2:=E2.kept hb;clear hb SC D6 E1 hY2 bw3
  go_wp2_with (refine aJ (w.heap.size+1) [.int .i64 0,.slice none 0 0] [.int .i64 0,.slice none 0 0] rfl rfl E2 rfl iZ (by simp[Value.oneCell']) ?_);intro w5 B3 O3
  have HZ:=gy (And.intro B3 (bw4.trans (O3.below (Nat.le_succ _))));clear B3 O3 E2;go_wp2
  (try simp only[Exit.inBlock,Exit.then]);exact bodyPost_ret (a_ rfl (w.heap.size+1) _ rfl HZ.out.1 underlying53 iZ) rfl (show qZ 0 [] false w _ _ from⟨none,0,rfl,cK _ _,Nat.zero_le _,HZ.out.2⟩)
 | true=>
  have FR:Hid (∀(w0:World) (g:Nat),aa w0 g (dC n (isIn l)) 4->Calls prog 33 #[.slice (some ⟨g,0,none⟩) n n] w0 fun e w'=>∃g',e=.returned (.tuple #[.agg #[.int .i64 n,.slice (some ⟨g',0,none⟩) (rowOf n (isIn l)).length (rowOf n (isIn l)).length],.int .i64 0])/\w0.heap.size<=g'/\Own w' g' (rowOf n (isIn l))/\Below w0.heap.size w0 w'):=fun w0 g h=>by
   have hlen:(fD n (isIn l)).length=n:=by simp[fD]
   have h3:=ks (some ⟨g,0,none⟩) (fD n (isIn l)) n _ w0 (vP h) (by rw[hlen];omega) rfl;rw[li]at h3
   have e6:aB (fD n (isIn l))=rowOf n (isIn l):=by
    unfold aB;rw[hlen];refine di n _ _ fun i hi=>?_;unfold bt fD;rw[List.getD_eq_getElem?_getD,List.getElem?_map,List.getElem?_range hi];rfl
   have e5:(rowOf n (isIn l)).length=(n+63)/64:=cP _ _;rw[hlen,e6]at h3;rw[e5];exact h3
  generalize hYY:rowOf n (isIn l)=YY at *;clear hYY;go_enter func170,ntmps170;go_wp2_with fail;rw[<-hW];refine(RC.out _ bW).mono ?_;rintro e w1 ⟨so,sc,rfl,hN,hsc,hb⟩;have bw1:=bg bW hb
  replace B1:=B1.kept hb;replace B2:=B2.kept hb;have q0:=B1.cell 0 rfl;clear hb bW hW RC;go_wp2_with fail;refine(OC.out _ _ _ hN).mono ?_;rintro e w2 ⟨yo,yc,zo,zc,rfl,hY,hb⟩;have bw2:=bg bw1 hb
  replace B1:=B1.kept hb;replace B2:=B2.kept hb;replace hN:=Nd.keep hN hb;clear hb OC bw1 q0
  have bA:=below_alloc w2 (.cells #[.int .i64 y1,.int .i64 y2,.int .i64 y3,.int .i64 y4,.int .i64 y5,.slice yo y6 yc,.int .i64 y7,.slice zo y8 zc] 61)
  have D6:=aa.new w2 [.int .i64 y1,.int .i64 y2,.int .i64 y3,.int .i64 y4,.int .i64 y5,.slice yo y6 yc,.int .i64 y7,.slice zo y8 zc] 61;have E1:=B1.kept bA;have E2:=B2.kept bA;have hY2:=yk _ _ _ _ _ _ hY bA
  have bw3:=bg bw2 bA;replace hN:=Nd.keep hN bA;clear B1 B2 hY bA
  go_wp2_with (first | refine ca w.heap.size _ (by rfl) rfl E1 underlying61 fQ ?_ | refine ca w2.heap.size _ (by rfl) rfl D6 underlying61 fQ ?_);refine mr (SC.out _ _ _ _ _ bw3 hY2) fun w4 hb=>?_;have bw4:=bg bw3 hb;replace E1:=E1.kept hb;replace E2:=E2.kept hb;replace hN:=Nd.keep hN hb;clear hb SC D6 hY2 bw3 bw2;have gl:=E2.lt;have q0:=E1.cell 0 rfl
  go_wp2_with (at_make;refine wpList_make_full _ rfl _ _ 73 rfl w4.heap.size 4 i4 (.bool false) 1 underlying73 hi4 za4 zb4 .i64 .i64 _ _ n rfl rfl rfl rfl ?b2 ?b3 ?b4 ?_)
  case b2=>rw[zc4];omega
  case b3=>unfold maxLen;omega
  case b4=>exact Nat.le_refl _
  intro w5 hown hgr;have hB:=vY hown;have bG:Below w4.heap.size w4 w5:=(Below.refl _ _).grown hgr (Nat.le_refl _) (fun k h=>by cases h);replace E2:=E2.kept bG;have bw5:=bg bw4 bG
  have bz:=bw4.size;clear hown hgr bw4 E1 q0
  have hN2:Hid (∀q,q<l.length->∃b off,so=some ⟨b,off,none⟩/\b<w4.heap.size/\w5.cell? ⟨b,off+q,none⟩=some (.int .i64 (gt l q:Nat))):=fun q hq=>by
   obtain⟨b,off,e,hbl,hcel⟩:=hN (by rw[fN];omega);have h1:=hcel q (by rw[fN];exact hq);rw[j0]at h1;exact⟨b,off,e,hbl,(bG.cell (p:=⟨b,off+q,none⟩) hbl).trans h1⟩
  clear hN bG;generalize w4.heap.size=g at *;go_wp2;go_loopw [9] (fun iv wr=>∃q:Nat,q<=l.length/\iv=.int .i64 q/\aa wr g (dC n (isIn (l.take q))) 4/\aC g w5 wr) (fun iv _=>l.length-(intOf iv).toNat)
  case atStart=>exact⟨0,Nat.zero_le _,rfl,by rw[qD n (isIn (l.take 0)) (fun _=>false) (fun i _=>by simp[isIn])];exact hB,aC.refl _ _⟩
  case round=>
   obtain⟨q,hq,rfl,hC,hOn⟩:=hrel;by_cases hlt:q<l.length
   .have hlt2:(q:Int)<(l.length:Int):=by omega
    obtain⟨b,off,rfl,hbl,hc5⟩:=hN2.out q hlt;have cq:wr.cell? ⟨b,off+q,none⟩=some (.int .i64 (gt l q:Nat)):=(World.cell?_of_block (w:=w5) (hOn.block b (by omega))).trans hc5;have xl:=hr.1 q hlt
    have lln:=hr.len;have ql3:q<3000:=by omega
    clear lln;have ST:=gy (nU (l.take q) (gt l q));have TK:=gy (mV l q hlt);have cj:=hC.cell (gt l q) (mE _ _ _ xl);have fj:=hC.frozen (gt l q);have st:=hC.set (gt l q) (.bool true)
    rw[vD]at st
    have HS:Hid (aa (wr.setCell ⟨g,gt l q,none⟩ (.bool true)) g (dC n (isIn (l.take (q+1)))) 4/\aC g w5 (wr.setCell ⟨g,gt l q,none⟩ (.bool true))):=by
     refine⟨?_,hOn.set _ _⟩;rw[TK.out,qD n _ _ (fun i _=>ST.out i)];exact st
    have xl2:(gt l q:Int)<(n:Int):=by omega
    clear st hc5 hC hOn;generalize gt l q=x at *;go_wp2;exact⟨⟨q+1,by omega,by go_num,HS.out.1,HS.out.2⟩,by simp only[intOf];omega⟩
   .obtain rfl:q=l.length:=by omega
    rw[List.take_of_length_le (Nat.le_refl _)]at hC;have F1:=gy (FR.out wr g hC);have E3:=hOn.cel E2 (by omega);have bw6:=bw5.trans (hOn.below (by omega));have e3l:=E3.lt;clear FR hC hOn hB E2 bw5;go_wp2_with fail
    refine F1.out.mono ?_;rintro e w6 ⟨g',rfl,hg',hO,hb⟩;replace E3:=E3.kept hb;have bw7:=bg bw6 hb;clear hb F1
    have bA:=below_alloc w6 (.cells #[.int .i64 n,.slice (some ⟨g',0,none⟩) YY.length YY.length] 53);have D7:=aa.new w6 [.int .i64 n,.slice (some ⟨g',0,none⟩) YY.length YY.length] 53
    have E4:=E3.kept bA;have hO2:=hO.keep bA;have bw8:=bg bw7 bA;have gx:g'≠w.heap.size+1:=by omega
    clear E3 hO bA bw6 bw7
    go_wp2_with (first | refine fe w6.heap.size _ rfl D7 underlying53 iZ ?_ | refine aJ (w.heap.size+1) [.int .i64 0,.slice none 0 0] _ rfl rfl E4 rfl iZ (by simp[Value.oneCell']) ?_)
    intro w9 B3 O3;have hO3:Own w9 g' YY:=(O3.block g' gx).trans hO2;have HZ:=gy (And.intro B3 (And.intro hO3 (bw8.trans (O3.below (Nat.le_succ _)))));clear B3 O3 hO2 hO3 D7 E4 bw8;go_wp2
    (try simp only[Exit.inBlock,Exit.then])
    exact bodyPost_ret (a_ rfl (w.heap.size+1) _ rfl HZ.out.1 underlying53 iZ) rfl (show qZ (n:Int) YY true w _ _ from⟨some ⟨g',0,none⟩,YY.length,rfl,HZ.out.2.1.wd,Nat.le_refl _,HZ.out.2.2⟩)
theorem FL(c0 c1 c2 c3 c4 c5 c6 c7:Value)(ok:Bool)(N:Int)(X:List Nat)(w:World)(hf:aA X)(hck:ok=true->am N X=true)(C1:Hid (∀w0,Below w.heap.size w w0->Calls prog 170 #[.agg #[c0,c1,c2,c3,c4,c5,c6,c7]] w0 fun e w'=>∃bo bc,e=.returned (.tuple #[.agg #[.int .i64 N,.slice bo X.length bc],.bool ok])/\Wd w' bo X/\X.length<=bc/\Below w0.heap.size w0 w')):
  Qq 120 #[.agg #[c0,c1,c2,c3,c4,c5,c6,c7]] w (.bool ok):=by
 obtain⟨W,hW⟩:∃W,W=w.alloc (.cells #[c0,c1,c2,c3,c4,c5,c6,c7] 61):=⟨_,rfl⟩;have bW:=ba hW;go_enter func120,ntmps120;go_wp2_with fail;rw[<-hW];refine(C1.out _ bW).mono ?_
 rintro e w1 ⟨bo,bc,rfl,hx,hbc,hb⟩;have bw1:=bg bW hb;clear hb C1;have bA:=below_alloc w1 (.cells #[.int .i64 N,.slice bo X.length bc] 53);have bw2:=bg bw1 bA;go_wp2;go_ret
 exact⟨rfl,bw2⟩
theorem DY(a:bF)(h:kOk9 a=true):∃(n mm kn vn hh:Nat) (LM:Int) (xs ys:List Nat),a=⟨n,mm,kn,vn,LM,xs,hh,ys⟩:=by
 obtain⟨_,e⟩:=mg a h;rw[e];exact⟨_,_,_,_,_,_,_,_,rfl⟩
theorem FB(a b:FA):(decide (a.N=b.N)&&(decide (a.M=b.M)&&((decide (a.k=b.k)&&(decide (a.V=b.V)&&(decide (a.LM=b.LM)&&decide (a.xs=b.xs))))&&(decide (a.H=b.H)&&decide (a.ys=b.ys)))))=lq a b:=by
 unfold lq;simp only[Bool.and_assoc]
theorem va(cs:List Value)(a:bF)(w:World)(h:bT w cs a):
  Calls prog 170 #[.agg cs.toArray] w fun e w'=>∃bo bc,e=.returned (.tuple #[.agg #[.int .i64 (kBN9 a),.slice bo (kBX9 a).length bc],.bool (kOk9 a)])/\Wd w' bo (kBX9 a)/\(kBX9 a).length<=bc/\Below w.heap.size w w':=by
 obtain⟨⟨ao,cap,qo,dap,rfl,_,a1,a2,a3,a4,a5,a6⟩,n3,xl,yl⟩:=h;obtain⟨N,M,k,V,LM,xs,H,ys⟩:=a;dsimp only at *
 have RC:=fun(w0:World) (hb:Below w.heap.size w w0)=>yE N M k V LM ao xs cap H qo ys dap w0 (a1.keep hb) a2 (a4.keep hb) a5;cases hrow:dv ⟨N,M,k,V,LM,xs,H,ys⟩with
 | none=>
  rw[hrow]at RC;have ok:kOk9 ⟨N,M,k,V,LM,xs,H,ys⟩=false:=by unfold kOk9;rw[hrow]
  have e1:kBN9 ⟨N,M,k,V,LM,xs,H,ys⟩=0:=by unfold kBN9;rw[ok];rfl
  have e2:kBX9 ⟨N,M,k,V,LM,xs,H,ys⟩=[]:=by unfold kBX9;rw[ok];rfl
  rw[ok,e1,e2];refine mr (FH N M k V LM ao xs cap H qo ys dap w RC) fun w' hb=>?_;exact⟨none,0,rfl,cK _ _,Nat.zero_le _,hb⟩
 | some l=>
  rw[hrow]at RC;obtain⟨n0,hr⟩:=FE _ l hrow;dsimp only at n0 hr;obtain⟨n,rfl⟩:=Int.eq_ofNat_of_zero_le n0;rw[Int.toNat_natCast]at hr;have hn:n<=3000:=by omega
  have ok:kOk9 ⟨n,M,k,V,LM,xs,H,ys⟩=lq ⟨n,M,k,V,LM,xs,H,ys⟩ (aG n l):=by unfold kOk9;rw[hrow];rfl
  have e0:kRow ⟨n,M,k,V,LM,xs,H,ys⟩=l:=by unfold kRow;rw[hrow];rfl
  have e1:kBN9 ⟨n,M,k,V,LM,xs,H,ys⟩=if kOk9 ⟨n,M,k,V,LM,xs,H,ys⟩=true then (n:Int)else 0:=rfl
  have e2:kBX9 ⟨n,M,k,V,LM,xs,H,ys⟩=if kOk9 ⟨n,M,k,V,LM,xs,H,ys⟩=true then rowOf n (isIn l)else []:=by unfold kBX9;rw[e0];rfl
  rw[e1,e2]
  refine FG n M k V LM ao xs cap H qo ys dap l w hn hr (aG n l).N (aG n l).M (aG n l).k (aG n l).V (aG n l).LM (aG n l).H (aG n l).xs.length (aG n l).ys.length _ RC (fun w0 yo yc zo zc=>Wd w0 yo (aG n l).xs/\Wd w0 zo (aG n l).ys) (fun w1 w2 yo yc zo zc h hb=>⟨h.1.keep hb,h.2.keep hb⟩) ?_ ?_
  .intro w0 so sc hN;refine(tj n so l sc w0 hN hr hn).mono ?_;rintro e w' ⟨bo,bc,qo',qc,rfl,⟨h1,_,h2,_⟩,hb⟩;exact⟨bo,bc,qo',qc,rfl,⟨h1,h2⟩,hb⟩
  .intro w0 yo yc zo zc hb hY
   have:=vb (n:Int) M k V LM ao xs cap H qo ys dap (aG n l).N (aG n l).M (aG n l).k (aG n l).V (aG n l).LM yo (aG n l).xs yc (aG n l).H zo (aG n l).ys zc w0 (a1.keep hb) hY.1 (a4.keep hb) hY.2 xl yl
   rw[FB ⟨n,M,k,V,LM,xs,H,ys⟩ (aG n l),<-ok]at this;exact this
theorem FK(cs:List Value)(a:bF)(w:World)(h:bT w cs a):
  Qq 120 #[.agg cs.toArray] w (.bool (kOk9 a)):=by
 have W:=fun(w0:World) (hb:Below w.heap.size w w0)=>va cs a w0 (h.keep hb);obtain⟨⟨ao,cap,qo,dap,rfl,_⟩,_⟩:=h;exact FL _ _ _ _ _ _ _ _ (kOk9 a) (kBN9 a) (kBX9 a) w (um a) (kV a) W
theorem FI(cs:List Value)(a:bF)(w:World)(h:bT w cs a):
  Qq 73 #[.agg cs.toArray] w (.int .i64 (kZ9 a)):=by
 have C:=fun(w0:World) (hb:Below w.heap.size w w0)=>FK cs a w0 (h.keep hb);obtain⟨⟨ao,cap,qo,dap,rfl,_⟩,_,_,_⟩:=h;obtain⟨N,M,k,V,LM,xs,H,ys⟩:=a;dsimp only at *
 obtain⟨Z,hZ⟩:∃Z,Hid (Z=kZ9 ⟨N,M,k,V,LM,xs,H,ys⟩):=⟨_,rfl⟩;rw[<-hZ.out]
 obtain⟨W,hW⟩:∃W,W=w.alloc (.cells #[.int .i64 N,.int .i64 M,.int .i64 k,.int .i64 V,.int .i64 LM,.slice ao xs.length cap,.int .i64 H,.slice qo ys.length dap] 61):=⟨_,rfl⟩;have bW:=ba hW;have B1:=bE hW
 have CH:Hid (Qz w 120 #[.agg #[.int .i64 N,.int .i64 M,.int .i64 k,.int .i64 V,.int .i64 LM,.slice ao xs.length cap,.int .i64 H,.slice qo ys.length dap]] (.bool (kOk9 ⟨N,M,k,V,LM,xs,H,ys⟩))):=C
 clear C;cases hk:kOk9 ⟨N,M,k,V,LM,xs,H,ys⟩with
 | false=>
  rw[hk]at CH
  have E:Hid (Z=0):=by
   show Z=0;rw[hZ.out];unfold kZ9;rw[hk];rfl
  clear hk hZ;go_enter func73,ntmps73;go_wp2_with fail;rw[<-hW];refine mr (CH.out _ bW) fun w1 hb=>?_;have bw1:=bg bW hb;clear hW;go_wp2;go_ret;rw[E.out];exact⟨rfl,bw1⟩
 | true=>
  rw[hk]at CH
  have E:Hid (Z=LM+H+64):=by
   show Z=_;rw[hZ.out];unfold kZ9;rw[if_pos hk]
  obtain⟨n,mm,kn,vn,hh,LM',xs',ys',e⟩:=DY _ hk;simp only[FA.mk.injEq]at e;obtain⟨rfl,rfl,rfl,rfl,rfl,rfl,rfl,rfl⟩:=e;obtain⟨F,_⟩:=iS n mm kn vn hh LM xs ys hk
  obtain⟨_,_,_,_,_,m1,m2,_⟩:=dP _ _ _ _ F.ik;obtain⟨l1,l2,_,_⟩:=bj _ _ F.ck;clear hk hZ F;go_enter func73,ntmps73;go_wp2_with fail;rw[<-hW];refine mr (CH.out _ bW) fun w1 hb=>?_
  have bw1:=bg bW hb;replace B1:=B1.kept hb;have r4:=B1.cell 4 rfl;have r6:=B1.cell 6 rfl;clear hW hb;go_wp2;go_ret;rw[E.out];exact⟨rfl,bw1⟩
theorem xB{ops:Array Oper}{d:Option Tmp}{ty T:TypeId}{ps:String}{af:Array Edge}{a:Act}{w:World}{K:Act->World->Prop}{Q:Exit->Act->World->Prop}{E:Prop}{x y:Operand}
  (g:Nat) (old cs:List Value) (hx:a.eval x=.pointer (some ⟨g,0,none⟩)) (hy:a.eval y=.agg cs.toArray) (hc:aa w g old T) (lo:old.length=cs.length) (hi:(prog.info? T).map (·.size)=some cs.length) (h1:cs.toArray.all (·.oneCell')=true)
  (h:∀w1,aa w1 g cs T->aC g w w1->K (a.put d undef) w1):
  if Region.wanted (⟨d,.store T x y,ty,ps,af,none⟩:Oper) (yielded ops a.tmps)=true then Oper.wp prog (⟨d,.store T x y,ty,ps,af,none⟩:Oper) a w K Q else E:=by
 rw[if_pos (by simp[Region.wanted])];exact wp_store_row _ x y rfl g cs.toArray hx hy _ _ hc (by simpa using hi) (by simpa using lo) h1 (h _ (setRow_heap w g _ _ _ _ hc) (aC.row g w _))
theorem FP(N:Int)(ao:Option Addr)(xs:List Nat)(cap:Nat)(w:World)(hx:Wd w ao xs)(hf:aA xs)(hk:am N xs=false):
  Qq 63 #[.agg #[.int .i64 N,.slice ao xs.length cap]] w (.tuple #[.agg #[.int .i64 0,.int .i64 0,.int .i64 0,.int .i64 0,.int .i64 0,.slice none 0 0,.int .i64 0,.slice none 0 0],.int .i64 2]):=by
 have CC:Hid (Qz w 64 #[.agg #[.int .i64 N,.slice ao xs.length cap]] (.bool false)):=fun w0 hb=>by
  have:=du N ao xs cap w0 (hx.keep hb) hf;rw[hk]at this;exact this
 obtain⟨W1,hW1⟩:∃W1,W1=(w.alloc (.cells #[.int .i64 N,.slice ao xs.length cap] 53)).alloc (.cells #[.int .i64 0,.int .i64 0,.int .i64 0,.int .i64 0,.int .i64 0,.slice none 0 0,.int .i64 0,.slice none 0 0] 61):=⟨_,rfl⟩
 have b1:Below w.heap.size w W1:=by rw[hW1];exact(below_alloc w _).alloc (by simp) _
 have c1:aa W1 (w.heap.size+1) [.int .i64 0,.int .i64 0,.int .i64 0,.int .i64 0,.int .i64 0,.slice none 0 0,.int .i64 0,.slice none 0 0] 61:=by rw[hW1];exact aa.new2 w _ _ _
 go_enter func63,ntmps63;go_wp2_with fail;rw[<-hW1];clear hW1 hx;refine mr (CC.out _ b1) fun wf hb=>?_;replace b1:=bg b1 hb;replace c1:=c1.kept hb;clear hb CC
 go_wp2_with (refine aJ (w.heap.size+1) [.int .i64 0,.int .i64 0,.int .i64 0,.int .i64 0,.int .i64 0,.slice none 0 0,.int .i64 0,.slice none 0 0] [.int .i64 0,.int .i64 0,.int .i64 0,.int .i64 0,.int .i64 0,.slice none 0 0,.int .i64 0,.slice none 0 0] rfl rfl c1 rfl fQ (by simp[Value.oneCell']) ?_)
 intro w3 B3 O3;have HZ:=gy (And.intro B3 (b1.trans (O3.below (Nat.le_succ _))));clear B3 O3 b1 c1;go_wp2
 (try simp only[Exit.inBlock,Exit.then]);exact bodyPost_ret (a_ rfl (w.heap.size+1) _ rfl HZ.out.1 underlying61 fQ) rfl ⟨rfl,HZ.out.2⟩
theorem FM(n:Nat)(ao:Option Addr)(xs:List Nat)(cap:Nat)(l:List Nat)(w:World)(y1 y2 y3 y4 y5 y7:Int)(y6 y8:Nat)
  (CC:Hid (Qz w 64 #[.agg #[.int .i64 n,.slice ao xs.length cap]] (.bool true)))
  (PC:Hid (∀w0,Below w.heap.size w w0->Calls prog 112 #[.agg #[.int .i64 n,.slice ao xs.length cap]] w0 fun e w'=>∃so sc,e=.returned (.slice so l.length sc)/\Nd w' so (lz l)/\Below w0.heap.size w0 w'))
  (YP:World->Option Addr->Nat->Option Addr->Nat->Prop) (yo9:∀w1 w2 yo yc zo zc,YP w1 yo yc zo zc->aC (w.heap.size+1) w1 w2->aa w1 (w.heap.size+1) [.int .i64 0,.int .i64 0,.int .i64 0,.int .i64 0,.int .i64 0,.slice none 0 0,.int .i64 0,.slice none 0 0] 61->YP w2 yo yc zo zc)
  (OC:Hid (∀w0 so sc,Nd w0 so (lz l)->Calls prog 111 #[.int .i64 n,.slice so l.length sc] w0 fun e w'=>∃yo yc zo zc,e=.returned (.tuple #[.agg #[.int .i64 y1,.int .i64 y2,.int .i64 y3,.int .i64 y4,.int .i64 y5,.slice yo y6 yc,.int .i64 y7,.slice zo y8 zc],.int .i64 0])/\YP w' yo yc zo zc/\Below w0.heap.size w0 w')):
  Calls prog 63 #[.agg #[.int .i64 n,.slice ao xs.length cap]] w fun e w'=>∃yo yc zo zc,e=.returned (.tuple #[.agg #[.int .i64 y1,.int .i64 y2,.int .i64 y3,.int .i64 y4,.int .i64 y5,.slice yo y6 yc,.int .i64 y7,.slice zo y8 zc],.int .i64 0])/\YP w' yo yc zo zc/\Below w.heap.size w w':=by
 obtain⟨W1,hW1⟩:∃W1,W1=(w.alloc (.cells #[.int .i64 n,.slice ao xs.length cap] 53)).alloc (.cells #[.int .i64 0,.int .i64 0,.int .i64 0,.int .i64 0,.int .i64 0,.slice none 0 0,.int .i64 0,.slice none 0 0] 61):=⟨_,rfl⟩
 have b1:Below w.heap.size w W1:=by rw[hW1];exact(below_alloc w _).alloc (by simp) _
 have c0:aa W1 w.heap.size [.int .i64 n,.slice ao xs.length cap] 53:=by rw[hW1];exact(aa.new w _ _).alloc _
 have c1:aa W1 (w.heap.size+1) [.int .i64 0,.int .i64 0,.int .i64 0,.int .i64 0,.int .i64 0,.slice none 0 0,.int .i64 0,.slice none 0 0] 61:=by rw[hW1];exact aa.new2 w _ _ _
 go_enter func63,ntmps63;go_wp2_with fail;rw[<-hW1];clear hW1;refine mr (CC.out _ b1) fun wf hb=>?_;replace b1:=bg b1 hb;replace c0:=c0.kept hb;replace c1:=c1.kept hb;clear hb CC
 go_wp2_with fail
 refine bn [7] (fun w0=>aa w0 w.heap.size [.int .i64 n,.slice ao xs.length cap] 53/\aa w0 (w.heap.size+1) [.int .i64 0,.int .i64 0,.int .i64 0,.int .i64 0,.int .i64 0,.slice none 0 0,.int .i64 0,.slice none 0 0] 61/\Below w.heap.size w w0) (by kernel_rfl) ?_
 have hS:(fun w0:World=>aa w0 w.heap.size [.int .i64 n,.slice ao xs.length cap] 53/\aa w0 (w.heap.size+1) [.int .i64 0,.int .i64 0,.int .i64 0,.int .i64 0,.int .i64 0,.slice none 0 0,.int .i64 0,.slice none 0 0] 61/\Below w.heap.size w w0) wf.drew:=⟨c0.drew,c1.drew,b1.drew⟩
 clear c0 c1 b1;refine aK 0 hS ?_;refine aF 1 hS rfl (fun w0 h0=>by have:=h0.1.cell 0 rfl;go_simp;try with_reducible rfl) ?_
 refine aF 2 hS rfl (fun w0 h0=>by have:=h0.1.cell 0 rfl;have:=h0.1.cell 1 rfl;go_simp;try with_reducible rfl) ?_;refine aO 3 ?_;intro K hK;go_simp;refine(PC.out _ hS.2.2).mono ?_
 rintro e w2 ⟨so,sc,rfl,hN,hb⟩;replace hS:=And.intro (hS.1.kept hb) (And.intro (hS.2.1.kept hb) (hS.2.2.trans (hb.mono hS.2.2.size)));clear hb;refine hK.out _ _ (fun _=>hS) ?_;clear hK K
 try simp only[Act.put,aw,ar,an,ah,aj,ai]
 refine aO 4 ?_;intro K hK;go_simp;refine(OC.out _ _ _ hN).mono ?_;rintro e w3 ⟨yo,yc,zo,zc,rfl,hY,hb⟩;replace hS:=And.intro (hS.1.kept hb) (And.intro (hS.2.1.kept hb) (hS.2.2.trans (hb.mono hS.2.2.size)))
 clear hb hN;refine hK.out _ _ (fun _=>hS) ?_;clear hK K;try simp only[Act.put,aw,ar,an,ah,aj,ai]
 refine aK 5 hS ?_;refine aK 6 hS ?_;refine aO 7 ?_;intro K hK
 refine xB (w.heap.size+1) [.int .i64 0,.int .i64 0,.int .i64 0,.int .i64 0,.int .i64 0,.slice none 0 0,.int .i64 0,.slice none 0 0] _ rfl rfl hS.2.1 rfl fQ (by simp[Value.oneCell']) ?_;intro w9 B9 O9
 have hY9:=yo9 _ _ _ _ _ _ hY O9 hS.2.1;have HZ:=gy (And.intro B9 (And.intro hY9 (hS.2.2.trans (O9.below (Nat.le_succ _)))));clear hY9 B9 O9 hS hY;refine hK.out _ _ (fun h=>absurd (by decide) h) ?_;clear hK K
 try simp only[Act.put,aw,ar,an,ah,aj,ai]
 refine aW 8 ?_;refine az.done (by kernel_rfl) ?_ _;go_wp2
 (try simp only[Exit.inBlock,Exit.then]);exact bodyPost_ret (a_ rfl (w.heap.size+1) _ rfl HZ.out.1 underlying61 fQ) rfl ⟨yo,yc,zo,zc,rfl,HZ.out.2.1,HZ.out.2.2⟩
theorem FO(N:Int)(ao:Option Addr)(xs:List Nat)(cap:Nat)(w:World)(hx:Wd w ao xs)(hf:aA xs)(hN:N<=3000):
  Calls prog 63 #[.agg #[.int .i64 N,.slice ao xs.length cap]] w fun e w'=>∃cs:List Value,e=.returned (.tuple #[.agg cs.toArray,.int .i64 (kE9 N xs)])/\bT w' cs (kB9 N xs)/\Below w.heap.size w w':=by
 have z:aD 0:=⟨by decide,by decide⟩;cases hk:am N xs with
 | false=>
  refine mr (FP N ao xs cap w hx hf hk) fun w' hb=>?_;have e1:kE9 N xs=2:=by unfold kE9;rw[hk];rfl
  have e2:kB9 N xs=⟨0,0,0,0,0,[],0,[]⟩:=by unfold kB9;rw[hk];rfl
  rw[e1,e2];have f0:aA []:=fun i=>by unfold gt;simp
  exact⟨_,rfl,⟨⟨none,0,none,0,rfl,⟨z,z,z,z,z,z⟩,cK _ _,f0,Nat.le_refl _,cK _ _,f0,Nat.le_refl _⟩,by decide,by simp,by simp⟩,hb⟩
 | true=>
  obtain⟨u1,u2,u3,u4⟩:=bj _ _ hk;obtain⟨n,rfl⟩:=Int.eq_ofNat_of_zero_le u1;have hn:n<=3000:=by omega
  obtain⟨L,hL⟩:∃L,L=plc (bitAt xs) n:=⟨_,rfl⟩;have RS:bi L n:=by rw[hL];exact ii _ _
  have mn:=RS.len;have e1:kE9 (n:Int) xs=0:=by unfold kE9;rw[hk];rfl
  have e2:kB9 (n:Int) xs=aG n L:=by
   unfold kB9;rw[if_pos hk,Int.toNat_natCast,<-hL]
  have CC:Hid (Qz w 64 #[.agg #[.int .i64 n,.slice ao xs.length cap]] (.bool true)):=fun w0 hb=>by
   have:=du n ao xs cap w0 (hx.keep hb) hf;rw[hk]at this;exact this
  have PC:Hid (∀w0,Below w.heap.size w w0->Calls prog 112 #[.agg #[.int .i64 n,.slice ao xs.length cap]] w0 fun e w'=>∃so sc,e=.returned (.slice so L.length sc)/\Nd w' so (lz L)/\Below w0.heap.size w0 w'):=fun w0 hb=>by
   refine(sZ n ao xs cap w0 (hx.keep hb) hk).mono ?_;rintro e w' ⟨v,rfl,ho,hb2⟩;rw[<-hL]at ho;obtain⟨so,sc,rfl,_,_⟩:=Ap.owns_shape ho;exact⟨so,sc,rfl,kH ho,hb2.mono (Nat.le_refl _)⟩
  have i_y:∀{w1:World} {yo:Option Addr} {X:List Nat},Wd w1 yo X->aa w1 (w.heap.size+1) [.int .i64 0,.int .i64 0,.int .i64 0,.int .i64 0,.int .i64 0,.slice none 0 0,.int .i64 0,.slice none 0 0] 61->∀a,0<X.length->yo=some a->a.block≠w.heap.size+1:=fun h hc=>h.apart hc (by intro v hv n;simp at hv;rcases hv with rfl | rfl | rfl | rfl<;>simp)
  refine(FM n ao xs cap L w (aG n L).N (aG n L).M (aG n L).k (aG n L).V (aG n L).LM (aG n L).H (aG n L).xs.length (aG n L).ys.length CC PC (fun w0 yo yc zo zc=>Wd w0 yo (aG n L).xs/\(aG n L).xs.length<=yc/\Wd w0 zo (aG n L).ys/\(aG n L).ys.length<=zc) (fun w1 w2 yo yc zo zc h hO hc=>⟨hO.wd h.1 (i_y h.1 hc),h.2.1,hO.wd h.2.2.1 (i_y h.2.2.1 hc),h.2.2.2⟩) ?_).mono ?_
  .intro w0 so sc hNd;exact tj n so L sc w0 hNd RS hn
  .rintro e w' ⟨bo,bc,qo,qc,rfl,⟨p1,p2,p3,p4⟩,hb⟩;rw[e1,e2];obtain⟨v,hv⟩:∃v,v=wdF n L.length:=⟨_,rfl⟩;have v20:v<=20:=by rw[hv];exact fW n _ (by omega)
   have e3:aG n L=⟨n,L.length,(loP L v).length,(max v 1:Nat),((loP L v).length:Int)*(max v 1:Nat),mkS (loP L v) (max v 1) (loP L v).length,hiN L n v,rowOf (hiN L n v) (isIn (hiP L v))⟩:=by
    unfold aG;rw[<-hv]
   rw[e3]at p1 p2 p3 p4⊢;dsimp only at p1 p2 p3 p4⊢;have l1:=mf L v;have hE:n/2^v<=n:=Nat.div_le_self _ _;have l2:hiN L n v<=6001:=by unfold hiN;omega
   have l3:(loP L v).length*max v 1<=3000*20:=Nat.mul_le_mul (by omega) (by omega);have l4:(mkS (loP L v) (max v 1) (loP L v).length).length<=1048576:=by rw[iV];omega
   have l5:(rowOf (hiN L n v) (isIn (hiP L v))).length<=1048576:=by rw[cP];omega
   have i1:aD (n:Int):=⟨by omega,by omega⟩;have i2:aD (L.length:Int):=⟨by omega,by omega⟩;have i3:aD ((loP L v).length:Int):=⟨by omega,by omega⟩
   have i5:aD ((max v 1:Nat):Int):=⟨by omega,by omega⟩;have i6:aD (hiN L n v:Int):=⟨by omega,by omega⟩
   have i4:aD (((loP L v).length:Int)*(max v 1:Nat)):=by
    rw[<-Int.natCast_mul];exact⟨by omega,by omega⟩
   exact⟨_,rfl,⟨⟨bo,bc,qo,qc,rfl,⟨i1,i2,i3,i5,i4,i6⟩,p1,mz _ _ _,p2,p3,cY _ _,p4⟩,hN,l4,l5⟩,hb⟩
theorem wW(k N:Int)(ao:Option Addr)(xs:List Nat)(cap:Nat)(w:World)(hK:aD k)(hN:aD N)(hx:Wd w ao xs)(hf:aA xs)(hcap:xs.length<=cap)(hl:N<=3000/\xs.length<=1048576)(GG:GV w):
  Calls prog 34 #[.int .i64 k,.agg #[.int .i64 N,.slice ao xs.length cap]] w fun e w'=>∃cs:List Value,e=.returned (.tuple #[.agg cs.toArray,.int .i64 (kE k N xs)])/\KI w' cs (kB k N xs)/\Below w.heap.size w w'/\dU w.heap.size cs:=by
 obtain⟨W,hW⟩:∃W,W=((w.alloc (.cells #[.int .i64 N,.slice ao xs.length cap] 53)).alloc (.cells [Value.int .i64 0,.int .i64 0,.slice none 0 0,.slice none 0 0,.slice none 0 0,.int .i64 0,.int .i64 0,.int .i64 0,.int .i64 0,.slice none 0 0,.int .i64 0,.slice none 0 0,.slice none 0 0,.slice none 0 0,.int .i64 0,.int .i64 0,.int .i64 0,.int .i64 0,.int .i64 0,.slice none 0 0,.int .i64 0,.slice none 0 0].toArray 63)).alloc (.cells [Value.int .i64 0,.int .i64 0,.slice none 0 0,.slice none 0 0,.slice none 0 0,.int .i64 0,.int .i64 0,.int .i64 0,.int .i64 0,.slice none 0 0,.int .i64 0,.slice none 0 0,.slice none 0 0,.slice none 0 0,.int .i64 0,.int .i64 0,.int .i64 0,.int .i64 0,.int .i64 0,.slice none 0 0,.int .i64 0,.slice none 0 0].toArray 63):=⟨_,rfl⟩
 have bw:Below w.heap.size w W:=by rw[hW];exact((below_alloc w _).alloc (by simp) _).alloc (by simp;omega) _
 have B0:aa W w.heap.size [.int .i64 N,.slice ao xs.length cap] 53:=by rw[hW];exact((aa.new w _ _).alloc _).alloc _
 have B4:aa W (w.heap.size+1) [Value.int .i64 0,.int .i64 0,.slice none 0 0,.slice none 0 0,.slice none 0 0,.int .i64 0,.int .i64 0,.int .i64 0,.int .i64 0,.slice none 0 0,.int .i64 0,.slice none 0 0,.slice none 0 0,.slice none 0 0,.int .i64 0,.int .i64 0,.int .i64 0,.int .i64 0,.int .i64 0,.slice none 0 0,.int .i64 0,.slice none 0 0] 63:=by rw[hW];exact(aa.new2 w _ _ _).alloc _
 have B6:aa W (w.heap.size+2) [Value.int .i64 0,.int .i64 0,.slice none 0 0,.slice none 0 0,.slice none 0 0,.int .i64 0,.int .i64 0,.int .i64 0,.int .i64 0,.slice none 0 0,.int .i64 0,.slice none 0 0,.slice none 0 0,.slice none 0 0,.int .i64 0,.int .i64 0,.int .i64 0,.int .i64 0,.int .i64 0,.slice none 0 0,.int .i64 0,.slice none 0 0] 63:=by rw[hW];exact(aa.new2 (w.alloc _) _ _ _).at (by simp)
 have hIV:=Hid.mk8 mq
 have H7:Hid (∀w0,Below w.heap.size w w0->Calls prog 61 #[.agg #[.int .i64 N,.slice ao xs.length cap]] w0 fun e w'=>∃cs:List Value,e=.returned (.tuple #[.agg cs.toArray,.int .i64 (kE7 N xs)])/\cH w' cs (kB7 N xs)/\NF w0.heap.size 2 cs/\Below w0.heap.size w0 w'):=fun w0 h=>A8 N ao xs cap w0 hN (hx.keep h) hf hcap hl.2
 have H8:Hid (∀w0,Below w.heap.size w w0->Calls prog 62 #[.agg #[.int .i64 N,.slice ao xs.length cap]] w0 fun e w'=>∃cs:List Value,e=.returned (.tuple #[.agg cs.toArray,.int .i64 (kE8 N xs)])/\br w' cs (kB8 N xs)/\NF w0.heap.size 7 cs/\Below w0.heap.size w0 w'):=fun w0 h=>zP N ao xs cap w0 (hx.keep h) hf (GG.kept h)
 have H9:Hid (∀w0,Below w.heap.size w w0->Calls prog 63 #[.agg #[.int .i64 N,.slice ao xs.length cap]] w0 fun e w'=>∃cs:List Value,e=.returned (.tuple #[.agg cs.toArray,.int .i64 (kE9 N xs)])/\bT w' cs (kB9 N xs)/\Below w0.heap.size w0 w'):=fun w0 h=>FO N ao xs cap w0 (hx.keep h) hf hl.1
 subst hW;by_cases q1:k=1
 .subst q1;have eE:kE 1 N xs=kE7 N xs:=rfl;rw[eE];by_cases z:kE7 N xs=0
  .have ew:kB 1 N xs=⟨1,kB7 N xs,n8,n9⟩:=nS N xs z;rw[z]at H7⊢;clear eE z;go_enter func34,ntmps34;go_wp2_with (refine aJ (w.heap.size+2) _ _ rfl rfl B6 rfl hIV.out (by simp[Value.oneCell']) ?_)
   intro w1 B6 O1;replace B0:=O1.cel B0 (by omega);replace B4:=O1.cel B4 (by omega);replace bw:=bw.trans (O1.below (by omega));clear O1;have r0:=B0.cell 0 rfl;have r1:=B0.cell 1 rfl;go_wp2_with fail
   refine(H7.out _ bw).mono ?_;rintro e w2 ⟨cs,rfl,hP,hN2,hb⟩;have sz:=B6.lt;have sz2:=hb.size;replace B4:=B4.kept hb;replace B6:=B6.kept hb;replace bw:=bg bw hb;clear hb r0 r1 B0
   go_wp2_with (refine fZ (w.heap.size+2) [Value.int .i64 1] [Value.int .i64 0,.slice none 0 0,.slice none 0 0,.slice none 0 0] ([Value.int .i64 0,.int .i64 0,.int .i64 0,.int .i64 0,.slice none 0 0,.int .i64 0,.slice none 0 0,.slice none 0 0,.slice none 0 0]++[Value.int .i64 0,.int .i64 0,.int .i64 0,.int .i64 0,.int .i64 0,.slice none 0 0,.int .i64 0,.slice none 0 0]) cs rfl rfl B6 hP.arg.four.symm hP.arg.len hP.arg.one ?_)
   intro w3 B7 O3;have hQ:=hP.only hN2 (by omega) B6 (nou_mk (z7arg w).arg.nou (z8a w).nou (z9arg w).arg.nou) O3;replace B4:=O3.cel B4 (by omega);replace bw:=bw.trans (O3.below (by omega))
   have B8:aa w3 (w.heap.size+2) (Value.int .i64 1::(cs++([Value.int .i64 0,.int .i64 0,.int .i64 0,.int .i64 0,.slice none 0 0,.int .i64 0,.slice none 0 0,.slice none 0 0,.slice none 0 0]++[Value.int .i64 0,.int .i64 0,.int .i64 0,.int .i64 0,.int .i64 0,.slice none 0 0,.int .i64 0,.slice none 0 0]))) 63:=B7
   have HL:=Hid.mk8 (gU hK hQ.arg (z8a w3) (z9arg w3).arg).len;have H1:=Hid.mk8 (gU hK hQ.arg (z8a w3) (z9arg w3).arg).one;have H9:=Hid.mk8 (gU hK hQ.arg (z8a w3) (z9arg w3).arg).nine
   have HNF:Hid (dU w.heap.size (Value.int .i64 1::(cs++([Value.int .i64 0,.int .i64 0,.int .i64 0,.int .i64 0,.slice none 0 0,.int .i64 0,.slice none 0 0,.slice none 0 0,.slice none 0 0]++[Value.int .i64 0,.int .i64 0,.int .i64 0,.int .i64 0,.int .i64 0,.slice none 0 0,.int .i64 0,.slice none 0 0])))):=⟨(hN2.mono (by omega)).mid (pre:=[Value.int .i64 1]) (by have:=hQ.arg.four;omega) rfl,(show NF w.heap.size 7 [Value.int .i64 0,.int .i64 0,.int .i64 0,.int .i64 0,.slice none 0 0,.int .i64 0,.slice none 0 0,.slice none 0 0,.slice none 0 0]from cW (aX _) (aX _)).mid (pre:=Value.int .i64 1::cs) (by decide) (by have:=hQ.arg.four;simp;omega)⟩
   have HQ:=Hid.mk8 (And.intro hQ hN2);clear B7 O3 B6 hP hN2 hQ
   go_wp2_with (first | refine ca (w.heap.size+2) _ (by rfl) rfl B8 underlying63 HL.out ?_ | refine aJ (w.heap.size+1) _ _ rfl rfl B4 H9.out HL.out H1.out ?_);intro w9 B9 O9
   have HZ:=Hid.mk8 (And.intro B9 (And.intro (ki_mk hK (HQ.out.1.only HQ.out.2 (by omega) B4 (nou_mk (z7arg w).arg.nou (z8a w).nou (z9arg w).arg.nou) O9) (z8arg w9 (GG.kept (bw.trans (O9.below (by omega))))) (z9arg w9)) (bw.trans (O9.below (by omega)))))
   clear B9 O9 B8 B4 HQ;go_wp2
   (try simp only[Exit.inBlock,Exit.then]);refine bodyPost_ret (a_ rfl (w.heap.size+1) _ rfl HZ.out.1 underlying63 HL.out) rfl ⟨_,rfl,?_,HZ.out.2.2,HNF.out⟩;rw[ew];exact HZ.out.2.1
  .have ew:kB 1 N xs=⟨0,n7,n8,n9⟩:=js 1 N xs (by rw[eE];exact z);have zz:(kE7 N xs != 0)=true:=by simp[z]
   clear eE z;generalize kE7 N xs=E1 at *;go_enter func34,ntmps34;go_wp2_with (refine aJ (w.heap.size+2) _ _ rfl rfl B6 rfl hIV.out (by simp[Value.oneCell']) ?_);intro w1 B6 O1
   replace B0:=O1.cel B0 (by omega);replace B4:=O1.cel B4 (by omega);replace bw:=bw.trans (O1.below (by omega));clear O1;have r0:=B0.cell 0 rfl;have r1:=B0.cell 1 rfl;go_wp2_with fail;refine(H7.out _ bw).mono ?_
   rintro e w2 ⟨cs,rfl,hP,hN2,hb⟩;have sz:=B6.lt;have sz2:=hb.size;replace B4:=B4.kept hb;replace B6:=B6.kept hb;replace bw:=bg bw hb;clear hb r0 r1 B0
   go_wp2_with (refine fZ (w.heap.size+2) [Value.int .i64 1] [Value.int .i64 0,.slice none 0 0,.slice none 0 0,.slice none 0 0] ([Value.int .i64 0,.int .i64 0,.int .i64 0,.int .i64 0,.slice none 0 0,.int .i64 0,.slice none 0 0,.slice none 0 0,.slice none 0 0]++[Value.int .i64 0,.int .i64 0,.int .i64 0,.int .i64 0,.int .i64 0,.slice none 0 0,.int .i64 0,.slice none 0 0]) cs rfl rfl B6 hP.arg.four.symm hP.arg.len hP.arg.one ?_)
   intro w3 B7 O3;replace B4:=O3.cel B4 (by omega);replace bw:=bw.trans (O3.below (by omega));clear B7 O3 B6 hP hN2;go_wp2_with (refine aJ (w.heap.size+1) _ _ rfl rfl B4 rfl hIV.out (by simp[Value.oneCell']) ?_)
   intro w9 B9 O9;have HZ:=Hid.mk8 (And.intro B9 (bw.trans (O9.below (by omega))));clear B9 O9;go_wp2
   (try simp only[Exit.inBlock,Exit.then]);refine bodyPost_ret (a_ rfl (w.heap.size+1) _ rfl HZ.out.1 underlying63 hIV.out) rfl ⟨_,rfl,?_,HZ.out.2,cW (aX _) (aX _),cW (aX _) (aX _)⟩;rw[ew]
   exact ki_mk dA (z7arg _) (z8arg _ (GG.kept HZ.out.2)) (z9arg _)
 by_cases q2:k=2
 .subst q2;have eE:kE 2 N xs=kE8 N xs:=rfl;rw[eE];by_cases z:kE8 N xs=0
  .have ew:kB 2 N xs=⟨2,n7,kB8 N xs,n9⟩:=nR N xs z;rw[z]at H8⊢;clear eE z;go_enter func34,ntmps34;go_wp2_with (refine aJ (w.heap.size+2) _ _ rfl rfl B6 rfl hIV.out (by simp[Value.oneCell']) ?_)
   intro w1 B6 O1;replace B0:=O1.cel B0 (by omega);replace B4:=O1.cel B4 (by omega);replace bw:=bw.trans (O1.below (by omega));clear O1;have r0:=B0.cell 0 rfl;have r1:=B0.cell 1 rfl;go_wp2_with fail
   refine(H8.out _ bw).mono ?_;rintro e w2 ⟨cs,rfl,hP,hN2,hb⟩;have sz:=B6.lt;have sz2:=hb.size;replace B4:=B4.kept hb;replace B6:=B6.kept hb;replace bw:=bg bw hb;clear hb r0 r1 B0
   go_wp2_with (refine fZ (w.heap.size+2) (Value.int .i64 2::[Value.int .i64 0,.slice none 0 0,.slice none 0 0,.slice none 0 0]) [Value.int .i64 0,.int .i64 0,.int .i64 0,.int .i64 0,.slice none 0 0,.int .i64 0,.slice none 0 0,.slice none 0 0,.slice none 0 0] [Value.int .i64 0,.int .i64 0,.int .i64 0,.int .i64 0,.int .i64 0,.slice none 0 0,.int .i64 0,.slice none 0 0] cs rfl rfl B6 hP.arg.nine hP.arg.len hP.arg.one ?_)
   intro w3 B7 O3;have hQ:=hP.only hN2 (by omega) B6 (nou_mk (z7arg w).arg.nou (z8a w).nou (z9arg w).arg.nou) O3 (GG.kept (bw.trans (O3.below (by omega))));replace B4:=O3.cel B4 (by omega)
   replace bw:=bw.trans (O3.below (by omega))
   have B8:aa w3 (w.heap.size+2) (Value.int .i64 2::([Value.int .i64 0,.slice none 0 0,.slice none 0 0,.slice none 0 0]++(cs++[Value.int .i64 0,.int .i64 0,.int .i64 0,.int .i64 0,.int .i64 0,.slice none 0 0,.int .i64 0,.slice none 0 0]))) 63:=B7
   have HL:=Hid.mk8 (ki_mk hK (z7arg w3) hQ (z9arg w3)).arg.len;have H1:=Hid.mk8 (ki_mk hK (z7arg w3) hQ (z9arg w3)).arg.one;have H9:=Hid.mk8 (ki_mk hK (z7arg w3) hQ (z9arg w3)).arg.nine
   have HNF:Hid (dU w.heap.size (Value.int .i64 2::([Value.int .i64 0,.slice none 0 0,.slice none 0 0,.slice none 0 0]++(cs++[Value.int .i64 0,.int .i64 0,.int .i64 0,.int .i64 0,.int .i64 0,.slice none 0 0,.int .i64 0,.slice none 0 0])))):=⟨cW (aX _) (aX _),(hN2.mono (by omega)).mid (pre:=Value.int .i64 2::[Value.int .i64 0,.slice none 0 0,.slice none 0 0,.slice none 0 0]) (by have:=hQ.arg.nine;omega) rfl⟩
   have HQ:=Hid.mk8 (And.intro hQ hN2);clear B7 O3 B6 hP hN2 hQ
   go_wp2_with (first | refine ca (w.heap.size+2) _ (by rfl) rfl B8 underlying63 HL.out ?_ | refine aJ (w.heap.size+1) _ _ rfl rfl B4 H9.out HL.out H1.out ?_);intro w9 B9 O9
   have HZ:=Hid.mk8 (And.intro B9 (And.intro (ki_mk hK (z7arg w9) (HQ.out.1.only HQ.out.2 (by omega) B4 (nou_mk (z7arg w).arg.nou (z8a w).nou (z9arg w).arg.nou) O9 (GG.kept (bw.trans (O9.below (by omega))))) (z9arg w9)) (bw.trans (O9.below (by omega)))))
   clear B9 O9 B8 B4 HQ;go_wp2
   (try simp only[Exit.inBlock,Exit.then]);refine bodyPost_ret (a_ rfl (w.heap.size+1) _ rfl HZ.out.1 underlying63 HL.out) rfl ⟨_,rfl,?_,HZ.out.2.2,HNF.out⟩;rw[ew];exact HZ.out.2.1
  .have ew:kB 2 N xs=⟨0,n7,n8,n9⟩:=js 2 N xs (by rw[eE];exact z);have zz:(kE8 N xs != 0)=true:=by simp[z]
   clear eE z;generalize kE8 N xs=E1 at *;go_enter func34,ntmps34;go_wp2_with (refine aJ (w.heap.size+2) _ _ rfl rfl B6 rfl hIV.out (by simp[Value.oneCell']) ?_);intro w1 B6 O1
   replace B0:=O1.cel B0 (by omega);replace B4:=O1.cel B4 (by omega);replace bw:=bw.trans (O1.below (by omega));clear O1;have r0:=B0.cell 0 rfl;have r1:=B0.cell 1 rfl;go_wp2_with fail;refine(H8.out _ bw).mono ?_
   rintro e w2 ⟨cs,rfl,hP,hN2,hb⟩;have sz:=B6.lt;have sz2:=hb.size;replace B4:=B4.kept hb;replace B6:=B6.kept hb;replace bw:=bg bw hb;clear hb r0 r1 B0
   go_wp2_with (refine fZ (w.heap.size+2) (Value.int .i64 2::[Value.int .i64 0,.slice none 0 0,.slice none 0 0,.slice none 0 0]) [Value.int .i64 0,.int .i64 0,.int .i64 0,.int .i64 0,.slice none 0 0,.int .i64 0,.slice none 0 0,.slice none 0 0,.slice none 0 0] [Value.int .i64 0,.int .i64 0,.int .i64 0,.int .i64 0,.int .i64 0,.slice none 0 0,.int .i64 0,.slice none 0 0] cs rfl rfl B6 hP.arg.nine hP.arg.len hP.arg.one ?_)
   intro w3 B7 O3;replace B4:=O3.cel B4 (by omega);replace bw:=bw.trans (O3.below (by omega));clear B7 O3 B6 hP hN2;go_wp2_with (refine aJ (w.heap.size+1) _ _ rfl rfl B4 rfl hIV.out (by simp[Value.oneCell']) ?_)
   intro w9 B9 O9;have HZ:=Hid.mk8 (And.intro B9 (bw.trans (O9.below (by omega))));clear B9 O9;go_wp2
   (try simp only[Exit.inBlock,Exit.then]);refine bodyPost_ret (a_ rfl (w.heap.size+1) _ rfl HZ.out.1 underlying63 hIV.out) rfl ⟨_,rfl,?_,HZ.out.2,cW (aX _) (aX _),cW (aX _) (aX _)⟩;rw[ew]
   exact ki_mk dA (z7arg _) (z8arg _ (GG.kept HZ.out.2)) (z9arg _)
 by_cases q3:k=3
 .subst q3;have eE:kE 3 N xs=kE9 N xs:=rfl;rw[eE];by_cases z:kE9 N xs=0
  .have ew:kB 3 N xs=⟨3,n7,n8,kB9 N xs⟩:=mj N xs z;rw[z]at H9⊢;clear eE z;go_enter func34,ntmps34;go_wp2_with (refine aJ (w.heap.size+2) _ _ rfl rfl B6 rfl hIV.out (by simp[Value.oneCell']) ?_)
   intro w1 B6 O1;replace B0:=O1.cel B0 (by omega);replace B4:=O1.cel B4 (by omega);replace bw:=bw.trans (O1.below (by omega));clear O1;have r0:=B0.cell 0 rfl;have r1:=B0.cell 1 rfl;go_wp2_with fail
   refine(H9.out _ bw).mono ?_;rintro e w2 ⟨cs,rfl,hP,hb⟩;have sz:=B6.lt;have sz2:=hb.size;replace B4:=B4.kept hb;replace B6:=B6.kept hb;replace bw:=bg bw hb;clear hb r0 r1 B0
   go_wp2_with (refine fZ (w.heap.size+2) (Value.int .i64 3::([Value.int .i64 0,.slice none 0 0,.slice none 0 0,.slice none 0 0]++[Value.int .i64 0,.int .i64 0,.int .i64 0,.int .i64 0,.slice none 0 0,.int .i64 0,.slice none 0 0,.slice none 0 0,.slice none 0 0])) [Value.int .i64 0,.int .i64 0,.int .i64 0,.int .i64 0,.int .i64 0,.slice none 0 0,.int .i64 0,.slice none 0 0] [] cs rfl rfl B6 hP.arg.nine hP.arg.len hP.arg.one ?_)
   intro w3 B7 O3;have hQ:=hP.only B6 (nou_mk (z7arg w).arg.nou (z8a w).nou (z9arg w).arg.nou) O3;replace B4:=O3.cel B4 (by omega);replace bw:=bw.trans (O3.below (by omega))
   have B8:aa w3 (w.heap.size+2) (Value.int .i64 3::([Value.int .i64 0,.slice none 0 0,.slice none 0 0,.slice none 0 0]++([Value.int .i64 0,.int .i64 0,.int .i64 0,.int .i64 0,.slice none 0 0,.int .i64 0,.slice none 0 0,.slice none 0 0,.slice none 0 0]++cs))) 63:=by simpa using B7
   have HL:=Hid.mk8 (gU hK (z7arg w3).arg (z8a w3) hQ.arg).len;have H1:=Hid.mk8 (gU hK (z7arg w3).arg (z8a w3) hQ.arg).one;have H9:=Hid.mk8 (gU hK (z7arg w3).arg (z8a w3) hQ.arg).nine
   have HNF:Hid (dU w.heap.size (Value.int .i64 3::([Value.int .i64 0,.slice none 0 0,.slice none 0 0,.slice none 0 0]++([Value.int .i64 0,.int .i64 0,.int .i64 0,.int .i64 0,.slice none 0 0,.int .i64 0,.slice none 0 0,.slice none 0 0,.slice none 0 0]++cs)))):=⟨cW (aX _) (aX _),cW (aX _) (aX _)⟩
   have HQ:=Hid.mk8 (And.intro hQ trivial);clear B7 O3 B6 hP hQ
   go_wp2_with (first | refine ca (w.heap.size+2) _ (by rfl) rfl B8 underlying63 HL.out ?_ | refine aJ (w.heap.size+1) _ _ rfl rfl B4 H9.out HL.out H1.out ?_);intro w9 B9 O9
   have HZ:=Hid.mk8 (And.intro B9 (And.intro (ki_mk hK (z7arg w9) (z8arg w9 (GG.kept (bw.trans (O9.below (by omega))))) (HQ.out.1.only B4 (nou_mk (z7arg w).arg.nou (z8a w).nou (z9arg w).arg.nou) O9)) (bw.trans (O9.below (by omega)))))
   clear B9 O9 B8 B4 HQ;go_wp2
   (try simp only[Exit.inBlock,Exit.then]);refine bodyPost_ret (a_ rfl (w.heap.size+1) _ rfl HZ.out.1 underlying63 HL.out) rfl ⟨_,rfl,?_,HZ.out.2.2,HNF.out⟩;rw[ew];exact HZ.out.2.1
  .have ew:kB 3 N xs=⟨0,n7,n8,n9⟩:=js 3 N xs (by rw[eE];exact z);have zz:(kE9 N xs != 0)=true:=by simp[z]
   clear eE z;generalize kE9 N xs=E1 at *;go_enter func34,ntmps34;go_wp2_with (refine aJ (w.heap.size+2) _ _ rfl rfl B6 rfl hIV.out (by simp[Value.oneCell']) ?_);intro w1 B6 O1
   replace B0:=O1.cel B0 (by omega);replace B4:=O1.cel B4 (by omega);replace bw:=bw.trans (O1.below (by omega));clear O1;have r0:=B0.cell 0 rfl;have r1:=B0.cell 1 rfl;go_wp2_with fail;refine(H9.out _ bw).mono ?_
   rintro e w2 ⟨cs,rfl,hP,hb⟩;have sz:=B6.lt;have sz2:=hb.size;replace B4:=B4.kept hb;replace B6:=B6.kept hb;replace bw:=bg bw hb;clear hb r0 r1 B0
   go_wp2_with (refine fZ (w.heap.size+2) (Value.int .i64 3::([Value.int .i64 0,.slice none 0 0,.slice none 0 0,.slice none 0 0]++[Value.int .i64 0,.int .i64 0,.int .i64 0,.int .i64 0,.slice none 0 0,.int .i64 0,.slice none 0 0,.slice none 0 0,.slice none 0 0])) [Value.int .i64 0,.int .i64 0,.int .i64 0,.int .i64 0,.int .i64 0,.slice none 0 0,.int .i64 0,.slice none 0 0] [] cs rfl rfl B6 hP.arg.nine hP.arg.len hP.arg.one ?_)
   intro w3 B7 O3;replace B4:=O3.cel B4 (by omega);replace bw:=bw.trans (O3.below (by omega));clear B7 O3 B6 hP;go_wp2_with (refine aJ (w.heap.size+1) _ _ rfl rfl B4 rfl hIV.out (by simp[Value.oneCell']) ?_)
   intro w9 B9 O9;have HZ:=Hid.mk8 (And.intro B9 (bw.trans (O9.below (by omega))));clear B9 O9;go_wp2
   (try simp only[Exit.inBlock,Exit.then]);refine bodyPost_ret (a_ rfl (w.heap.size+1) _ rfl HZ.out.1 underlying63 hIV.out) rfl ⟨_,rfl,?_,HZ.out.2,cW (aX _) (aX _),cW (aX _) (aX _)⟩;rw[ew]
   exact ki_mk dA (z7arg _) (z8arg _ (GG.kept HZ.out.2)) (z9arg _)
 have eE:kE k N xs=5:=by unfold kE;rw[if_neg q1,if_neg q2,if_neg q3]
 have ew:kB k N xs=⟨0,n7,n8,n9⟩:=js k N xs (by rw[eE];decide);rw[eE];have d1:(k==1)=false:=by simp[q1]
 have d2:(k==2)=false:=by simp[q2]
 have d3:(k==3)=false:=by simp[q3]
 clear eE;go_enter func34,ntmps34;go_wp2_with (refine aJ (w.heap.size+2) _ _ rfl rfl B6 rfl hIV.out (by simp[Value.oneCell']) ?_);intro w1 B6 O1;replace B0:=O1.cel B0 (by omega)
 replace B4:=O1.cel B4 (by omega);replace bw:=bw.trans (O1.below (by omega));clear O1;have r0:=B0.cell 0 rfl;have r1:=B0.cell 1 rfl
 go_wp2_with (refine aJ (w.heap.size+1) _ _ rfl rfl B4 rfl hIV.out (by simp[Value.oneCell']) ?_);intro w9 B9 O9;have HZ:=Hid.mk8 (And.intro B9 (bw.trans (O9.below (by omega))));clear B9 O9;go_wp2
 (try simp only[Exit.inBlock,Exit.then]);refine bodyPost_ret (a_ rfl (w.heap.size+1) _ rfl HZ.out.1 underlying63 hIV.out) rfl ⟨_,rfl,?_,HZ.out.2,cW (aX _) (aX _),cW (aX _) (aX _)⟩;rw[ew]
 exact ki_mk dA (z7arg _) (z8arg _ (GG.kept HZ.out.2)) (z9arg _)
theorem Dd{ops:Array Oper}{rest:List Oper}{d:Option Tmp}{ty T:TypeId}{ps:String}{af:Array Edge}{a:Act}{w:World}{Q:Exit->Act->World->Prop}(z:List Value)
  (hz:(prog.info? T).map (fun i=>(i.zero,i.size))=some (some (.agg z.toArray),z.length))
  (h:∀w1,aa w1 w.heap.size z T->Below w.heap.size w w1->w.heap.size<w1.heap.size->wpList prog ops Q rest (a.put d (.pointer (some ⟨w.heap.size,0,none⟩))) w1):
  wpList prog ops Q (⟨d,.alloc T,ty,ps,af,none⟩::rest) a w:=by
 refine wpList_plain rfl fun K hK=>?_;unfold Oper.wp execOp;have zz:=(zero_of_info hz).1;have nw:=h _ (aa.new w _ _) (below_alloc w _) (by simp);refine cast ?_ (hK _ _ nw)
 simp[Instr.alloc,Sem.run_bind,zz,newVar,Value.cells,go_sem]
theorem xC{ops:Array Oper}{o:Oper}{a:Act}{w:World}{K:Act->World->Prop}{Q:Exit->Act->World->Prop}{E:Prop}(hgd:o.guard=none)(s x:Operand)
  (ho:o.op=.call { callee:=.builtin .append,args:=#[s,x],argTypes:=#[25,25] })
  (v:Value) (l:List Nat) (hs:a.eval s=v) (h:ZO w v l) (z:Nat) (ad:Addr) (c0:Nat) (hx:a.eval x=.slice (some ad) 1 c0) (hn:w.cell? (ad.add 0)=some (.int .i64 z)) (h8:l.length<1000000)
  (k:∀v' w',ZO w' v' (l++[z])->Tz w w' v l->(∀g,v'.ownBlock=some g->v.ownBlock=some g\/g=w.heap.size)->K (a.put o.dst v') w'):
  if Region.wanted o (yielded ops a.tmps)=true then Oper.wp prog o a w K Q else E:=by
 rw[if_pos (by simp[Region.wanted,hgd])];exact wI s x ho v l hs h z ad c0 hx hn h8 k
theorem xm(k:IntKind)(l:List Nat)(i:Nat)(h:i<l.length):vK k (l.take i)++[.int k (gt l i:Nat)]=vK k (l.take (i+1)):=by
 have e:gt l i=l[i]:=by unfold gt;rw[List.getD_eq_getElem?_getD,List.getElem?_eq_getElem h];rfl
 rw[List.take_succ_eq_append_getElem h,gF,e];rfl
theorem Hc(l:List Bool)(i:Nat)(b:Bool)(h:l[i]?=some b):(l.take i).map Value.bool++[.bool b]=(l.take (i+1)).map Value.bool:=by
 obtain⟨hi,rfl⟩:=List.getElem?_eq_some_iff.1 h;rw[List.take_succ_eq_append_getElem hi,List.map_append];rfl
theorem jl{w w':World}{base e n g0:Nat}{v:Value}{vs gs:List Value}{T:TypeId}(h:w.ownsRow base e 1 v n vs)(hc:aa w g0 gs T)(hT:T≠e)(hO:aC g0 w w'):w'.ownsRow base e 1 v n vs:=by
 refine Ap.owns_other (u:=.slice (some ⟨g0,0,none⟩) 0 0) h (fun k hk hne=>hO.block k fun q=>hne (by rw[q];rfl)) fun k hk hu=>?_;injection hu with hu
 subst hu;obtain⟨_,⟨e1,_⟩ | ⟨g,cap,cur,e1,_,hh,_⟩⟩:=h
 .rw[e1]at hk;cases hk
 .rw[e1]at hk;injection hk with hk
  subst hk;unfold aa at hc;rw[hc]at hh;injection hh with hh
  injection hh with _ hh
  exact hT hh
theorem td{w w':World}{base e n:Nat}{v u:Value}{vs:List Value}{css:List (List Value)}(h:w.ownsRow base e 1 v n vs)(he:e≠63)(hT:Tn w w' u css):w'.ownsRow base e 1 v n vs:=by
 rcases hT with⟨g,cap,_,e1,e2⟩ | hb
 .exact jl h e1 (fun q=>he q.symm) e2
 .exact Ap.owns_below h hb
theorem A_{w w':World}{base e n:Nat}{v u:Value}{vs:List Value}{l:List Nat}(h:w.ownsRow base e 1 v n vs)(he:e≠3)(hT:Tz w w' u l):w'.ownsRow base e 1 v n vs:=by
 rcases hT with⟨g,cap,_,e1,e2⟩ | hb
 .exact jl h e1 (fun q=>he q.symm) e2
 .exact Ap.owns_below h hb
theorem Ba{w w':World}{base e n:Nat}{v u:Value}{vs:List Value}{l:List Nat}(h:w.ownsRow base e 1 v n vs)(ha:Ap.Apart v u)(hT:Tz w w' u l):w'.ownsRow base e 1 v n vs:=by
 rcases hT with⟨g,cap,rfl,e1,e2⟩ | hb
 .exact Ap.owns_other h (fun k hk hne=>e2.block k fun q=>hne (by rw[q];rfl)) ha
 .exact Ap.owns_below h hb
theorem Ia{w:World}{base e n:Nat}{v u u2:Value}{vs:List Value}(h:w.ownsRow base e 1 v n vs)(ha:Ap.Apart v u)(hv:∀g,u2.ownBlock=some g->u.ownBlock=some g\/g=w.heap.size):Ap.Apart v u2:=fun k hk hu=>by
 rcases hv k hu with e1 | rfl
 .exact ha k hk e1
 .obtain⟨_,_,_,_,hh⟩:=Ap.owns_shape h;exact absurd (hh _ hk).2 (Nat.lt_irrefl _)
def mbE(k:Int):Int:=if 1<=k/\k<=3 then 0 else 5
def cO(k:Int)(t:List Nat):MR:=if mbE k=0 then mRx k t else ⟨0,0,[],[]⟩
theorem D2(k:Int){t:List Nat}(hn:t.length<=3000)(l:Nat):kE k (t.length:Int) (aB (Mx.rw_ t l))=mbE k:=by
 unfold mbE;by_cases c:1<=k/\k<=3
 .rw[if_pos c];exact mh k _ _ c.1 c.2 (lB hn l)
 .rw[if_neg c];unfold kE;rw[if_neg (by omega),if_neg (by omega),if_neg (by omega)]
theorem Bj{t:List Nat}(hn:t.length<=3000)(l:Nat):onesI (t.length:Int) (aB (Mx.rw_ t l)) (t.length:Int)=((t.length-Mx.zs t l:Nat):Int):=by
 unfold onesI;have h1:=qt (Mx.rw_ t l) t.length (by rw[Mx.length_rw];exact Nat.le_refl _);have h2:=qv (Mx.rw_ t l) t.length (by rw[Mx.length_rw];exact Nat.le_refl _)
 have e:Mx.zs t l=Sh.ct false (Mx.rw_ t l) t.length:=by unfold Mx.zs;rw[Mx.length_rw]
 rw[lB hn l,show min (t.length:Int) (t.length:Int)=(t.length:Int)by omega,Int.toNat_natCast,h2,e];simp;omega
theorem wn(t:List Nat)(q:Nat):(List.range q).map (Mx.zs t)++[Mx.zs t q]=(List.range (q+1)).map (Mx.zs t):=by
 rw[List.range_succ,List.map_append];rfl
theorem xp(c l:Nat):c/2^(7-l)%2=(Mx.tb l c).toNat:=by
 unfold Mx.tb;rw[Nat.testBit_eq_decide_div_mod_eq];have:=Nat.mod_two_eq_zero_or_one (c/2^(7-l));rcases this with h | h<;>simp[h]
theorem xV(a b:Nat):(a:Int)/2^b=((a/2^b:Nat):Int):=by
 rw[Int.natCast_ediv,Int.natCast_pow];rfl
theorem sg(k:Int)(ao:Option Addr)(t:List Nat)(cap:Nat)(w:World)(hK:aD k)(hx:Bd w ao t)(hB:fV t)(hn:t.length<=3000)(G:GV w):
  Calls prog 11 #[.int .i64 k,.slice ao t.length cap] w fun e w'=>∃lo lc zo zc,e=.returned (.tuple #[.agg #[.int .i64 (cO k t).K,.int .i64 (cO k t).N,.slice lo (cO k t).av.length lc,.slice zo (cO k t).zs.length zc],.int .i64 (mbE k)])/\MI w' lo lc zo zc (cO k t)/\Below w.heap.size w w':=by
 obtain⟨i4,hi4,za4,zb4,zc4⟩:=info_parts Tryz.info4;obtain⟨i3,hi3,za3,zb3,zc3⟩:=info_parts jp;have HG:=ag G;have HX:=ag hx
 have FR:Hid (∀w0 q a9 c9,Bl w0 a9 (Mx.rw_ t q)->Calls prog 33 #[.slice a9 t.length c9] w0 fun e w'=>∃bo dap,e=.returned (.tuple #[.agg #[.int .i64 t.length,.slice bo (aB (Mx.rw_ t q)).length dap],.int .i64 0])/\Wd w' bo (aB (Mx.rw_ t q))/\(aB (Mx.rw_ t q)).length<=dap/\Below w0.heap.size w0 w'):=fun w0 q a9 c9 hc=>by
  have:=zj a9 (Mx.rw_ t q) c9 w0 hc (by rw[Mx.length_rw];omega);rw[Mx.length_rw]at this;refine this.mono ?_;rintro e w' ⟨bo,dap,rfl,h1,h2,h3,h4⟩;exact⟨bo,dap,rfl,h1,h3,h4⟩
 have BK:Hid (∀w0 q bo dap,Below w.heap.size w w0->Wd w0 bo (aB (Mx.rw_ t q))->(aB (Mx.rw_ t q)).length<=dap->Calls prog 34 #[.int .i64 k,.agg #[.int .i64 t.length,.slice bo (aB (Mx.rw_ t q)).length dap]] w0 fun e w'=>∃cs:List Value,e=.returned (.tuple #[.agg cs.toArray,.int .i64 (mbE k)])/\KI w' cs (kB k (t.length:Int) (aB (Mx.rw_ t q)))/\Below w0.heap.size w0 w'/\dU w0.heap.size cs):=fun w0 q bo dap hb h1 h2=>by
  have:=wW k (t.length:Int) bo (aB (Mx.rw_ t q)) dap w0 hK ⟨by omega,by omega⟩ h1 (cY _ _) h2 ⟨by omega,by unfold aB;rw[cP,Mx.length_rw];omega⟩ (HG.out.keep hb);rw[D2 k hn q]at this
  exact this
 have ON:Hid (∀w0 q bo dap,Wd w0 bo (aB (Mx.rw_ t q))->Qq 35 #[.agg #[.int .i64 t.length,.slice bo (aB (Mx.rw_ t q)).length dap],.int .i64 (t.length:Nat)] w0 (.int .i64 ((t.length-Mx.zs t q:Nat):Int))):=fun w0 q bo dap h1=>by
  have:=oU (t.length:Int) bo (aB (Mx.rw_ t q)) dap (t.length:Int) w0 h1 (cY _ _);rw[Bj hn q]at this;exact this
 have PT:Hid (∀w0 q oo oc a9 c9,Nd w0 oo (mI (Mx.sy t q))->Bl w0 a9 (Mx.rw_ t q)->Calls prog 36 #[.slice oo t.length oc,.slice a9 t.length c9] w0 fun e w'=>∃o2 c2,e=.returned (.slice o2 t.length c2)/\w'.ownsRow w0.heap.size 3 1 (.slice o2 t.length c2) t.length (vK .i64 (Mx.sy t (q+1)))/\Below w0.heap.size w0 w'):=fun w0 q oo oc a9 c9 h1 h2=>by
  rw[Mx.rw_sy]at h2;have:=rZ oo (Mx.sy t q) oc a9 c9 (Mx.tb q) w0 h1 h2 (by rw[Mx.length_sy];omega);rw[Mx.length_sy,<-Mx.sy_succ,Mx.length_sy]at this;refine this.mono ?_;rintro e w' ⟨o2,n2,c2,rfl,rfl,h3,h4⟩
  exact⟨o2,c2,rfl,h3,h4⟩
 have SY:Hid (∀q i,i<t.length->gt (Mx.sy t q) i<256/\(Mx.rw_ t q)[i]?=some (Mx.tb q (gt (Mx.sy t q) i))):=fun q i hi=>by
  refine⟨Mx.byt_sy hB q i,?_⟩;rw[Mx.rw_sy,List.getElem?_map,List.getElem?_eq_getElem (by rw[Mx.length_sy];exact hi)];unfold gt;rw[List.getD_eq_getElem?_getD,List.getElem?_eq_getElem (by rw[Mx.length_sy];exact hi)];rfl
 have ZL:Hid (∀q,Mx.zs t q<=t.length):=Mx.zs_le t;have LS:Hid (∀q,(Mx.sy t q).length=t.length):=Mx.length_sy t;have LR:Hid (∀q,(Mx.rw_ t q).length=t.length):=Mx.length_rw t
 have LT:Hid ((vK .i64 (t.take t.length))=vK .i64 (Mx.sy t 0)):=by show _=_;rw[List.take_length,Mx.sy_zero]
 have TS:Hid (∀i,i<t.length->vK .i64 (t.take i)++[.int .i64 (gt t i:Nat)]=vK .i64 (t.take (i+1))):=xm .i64 t;obtain⟨n,hnn⟩:∃n,Hid (n=t.length):=⟨_,rfl⟩
 have hn2:n<=3000:=by rw[hnn.out];exact hn
 have HBt:=ag hB;rw[<-hnn.out]at FR BK ON PT SY ZL LS LR LT TS⊢;obtain⟨E,hE⟩:∃E,Hid (E=mbE k):=⟨_,rfl⟩;rw[<-hE.out]at BK⊢
 have KK:Hid (∀q,q<8->kB k (t.length:Int) (aB (Mx.rw_ t q))=(mA k t).getD q ra0):=fun q hq=>(kK k t hq).symm;rw[<-hnn.out]at KK;clear hn hx hB G;have n1:¬(n:Int)>8192:=by omega
 have n1':¬(8192:Int)<(n:Int):=by omega
 have c4:=(aa.new w [.int .i64 0,.int .i64 0,.slice none 0 0,.slice none 0 0] 27).alloc (.cells [.int .i64 k,.int .i64 (n:Int),.slice none 0 0,.slice none 0 0].toArray 27)
 have c6:=aa.new2 w (.cells [.int .i64 0,.int .i64 0,.slice none 0 0,.slice none 0 0].toArray 27) [.int .i64 k,.int .i64 (n:Int),.slice none 0 0,.slice none 0 0] 27
 have bA:Below w.heap.size w ((w.alloc (.cells [.int .i64 0,.int .i64 0,.slice none 0 0,.slice none 0 0].toArray 27)).alloc (.cells [.int .i64 k,.int .i64 (n:Int),.slice none 0 0,.slice none 0 0].toArray 27)):=(below_alloc w _).alloc (by simp) _
 go_enter func11,ntmps11;go_wp2
 go_loopw [8,7] (fun s v wr=>∃i:Nat,i<=n/\s=.int .i64 i/\wr.ownsRow (w.heap.size+2) 3 1 v i (vK .i64 (t.take i))/\aa wr (w.heap.size+1) [.int .i64 k,.int .i64 (n:Int),.slice none 0 0,.slice none 0 0] 27/\aa wr w.heap.size [.int .i64 0,.int .i64 0,.slice none 0 0,.slice none 0 0] 27/\Below w.heap.size w wr) (fun s _ _=>n-(intOf s).toNat)
 case atStart=>exact⟨0,Nat.zero_le _,rfl,World.ownsRow_nil _ _ _ _,c6,c4,bA⟩
 case round=>
  obtain⟨i,hin,rfl,own7,h6,h4,hb⟩:=hrel;clear c6 c4 bA;obtain⟨a7,c7,rfl,hc7, -⟩:=Ap.owns_shape own7;by_cases hlt:i<n
  .have hlt2:(i:Int)<(n:Int):=by omega
   obtain⟨xb,xo,rfl,hxb,hxc⟩:=(HX.out.keep hb) (by rw[<-hnn.out];omega);have e2:=hxc i (by rw[<-hnn.out];exact hlt);have hc:=HBt.out i;have ts:=ag (TS.out i hlt);generalize gt t i=C at *;clear hxc
   have bB:=below_alloc wr (.cells #[.int .i64 C] 3);have own3:=Ap.owns_below own7 bB
   have src3:(wr.alloc (.cells #[.int .i64 C] 3)).cell? ⟨wr.heap.size,0,none⟩=some (.int .i64 C):=(aa.new wr [.int .i64 C] 3).cell 0 rfl;have hb3:=bg hb bB
   have g3:w.heap.size+2<=(wr.alloc (.cells #[.int .i64 C] 3)).heap.size:=by have:=h6.lt;have:=bB.size;omega
   have H6:=ag (And.intro (h6.kept bB) (h4.kept bB));clear bB own7 hb h6 h4;generalize vK .i64 (t.take i)=L7 at *
   go_wp2_with (at_builtin;refine Ap.wpList_append_u rfl _ _ 25 rfl (w.heap.size+2) 3 i3 (.int .i64 0) 8 underlying25 hi3 za3 zb3 zc3 rfl (.slice a7 i c7) i L7 rfl own3 (some ⟨wr.heap.size,0,none⟩) 1 1 [.int .i64 C] rfl rfl ?d1 ?d2 ?d3 ?d4 ?d5 ?_)
   case d1=>exact fun _=>⟨_,rfl,fun j u hj=>by
    match j,hj with
    | 0,hj=>simp at hj;subst hj;exact src3⟩
   case d2=>intro u hu;simp at hu;subst hu;rfl
   case d3=>unfold maxLen;omega
   case d4=>omega
   case d5=>exact g3
   intro so sc w4 own4 hle4 hB4;have HO:=ag (And.intro own4 (And.intro (H6.out.1.keep hB4 (by omega)) (And.intro (H6.out.2.keep hB4 (by omega)) (hb3.trans (hB4.mono (by omega))))));clear own4 own3 hB4 hb3 src3 g3 H6;go_wp2
   refine⟨⟨i+1,by omega,by go_num,?_,HO.out.2⟩,by simp only[intOf];omega⟩;rw[<-ts.out];exact HO.out.1
  .obtain rfl:i=n:=by omega
   rw[LT.out]at own7;have H3:=ag (And.intro own7 (And.intro h6 (And.intro h4 hb)));clear own7 h6 h4 hb TS LT HX HBt;go_wp2
   go_loopw [9,7] (fun s v wr=>∃(q:Nat) (css:List (List Value)) (vL vZ:Value) (oo:Option Addr) (oc B:Nat),q<=8/\s=.int .i64 q/\v=.slice oo i oc/\Hid (css.length=q)/\Hid (0<q->E=0)/\Hid (∀gg,vL.ownBlock=some gg->w.heap.size<=gg)/\Hid (∀gg,vZ.ownBlock=some gg->w.heap.size<=gg)/\Hid (ff (w.heap.size+1) wr vL vZ (fun j=>(mA k t).getD j ra0) css)/\Hid (wr.ownsRow B 3 1 (.slice oo i oc) i (vK .i64 (Mx.sy t q)))/\Hid (ZO wr vZ ((List.range q).map (Mx.zs t)))/\Hid (Ap.Apart (.slice oo i oc) vZ)/\Hid (aa wr (w.heap.size+1) [.int .i64 k,.int .i64 (i:Int),vL,vZ] 27)/\Hid (aa wr w.heap.size [.int .i64 0,.int .i64 0,.slice none 0 0,.slice none 0 0] 27)/\Hid (Below w.heap.size w wr)) (fun s _ _=>8-(intOf s).toNat)
   case atStart=>exact⟨0,[],.slice none 0 0,.slice none 0 0,a7,c7,_,Nat.zero_le _,rfl,rfl,ag rfl,ag (fun h=>absurd h (by decide)),ag (fun gg h=>by cases h),ag (fun gg h=>by cases h),ag (ff.nil _ _ _),ag H3.out.1,ag (.inl ⟨rfl,rfl⟩),ag (Ap.apart_nil _),ag H3.out.2.1,ag H3.out.2.2.1,ag H3.out.2.2.2⟩
   case round=>
    obtain⟨q,css,vL,vZ,oo,oc,B,hq,rfl,rfl,hl,h0,hvL,hvZ,HR,HO7,HZ,HA,H6,H4,HB⟩:=hrel;clear H3;by_cases hi:q<8
    .have hi2:(q:Int)<8:=by omega
     obtain⟨kk,hk⟩:∃kk,7-q=kk:=⟨_,rfl⟩;have mk:IntKind.i64.wrap (7-(q:Int))=(kk:Int):=by rw[IntKind.wrap_i64];omega
     have hk0:(0:Int)<=(kk:Int):=by omega
     have hk8:(kk:Int)<8:=by omega
     obtain⟨w2,rfl⟩:∃w2,w2=wr:=⟨_,rfl⟩;go_wp2
     go_loopw [11,10] (fun s v10 wr=>∃j:Nat,j<=i/\s=.int .i64 j/\wr.ownsRow w2.heap.size 4 1 v10 j (((Mx.rw_ t q).take j).map .bool)/\Below w2.heap.size w2 wr) (fun s _ _=>i-(intOf s).toNat)
     case atStart=>exact⟨0,Nat.zero_le _,rfl,World.ownsRow_nil _ _ _ _,Below.refl _ _⟩
     case round=>
      obtain⟨j,hji,rfl,own9,jb⟩:=hrel;obtain⟨a9,c9,rfl,hc9, -⟩:=Ap.owns_shape own9;by_cases hlt:j<i
      .have hlt2:(j:Int)<(i:Int):=by omega
       obtain⟨ob,of_,rfl,hob,hoc⟩:=((lZ HO7.out (LS.out q).symm).keep jb) (by rw[dh,LS.out];omega);have e2:=hoc j (by rw[dh,LS.out];exact hlt);rw[ip _ _ (by rw[LS.out];exact hlt)]at e2
       obtain⟨hc,hr⟩:=SY.out q j hlt;have tr:=xp (gt (Mx.sy t q) j) q;rw[hk]at tr;have bs:=ag (Hc (Mx.rw_ t q) j _ hr);generalize gt (Mx.sy t q) j=C at *;generalize Mx.tb q C=R at *
       have sc:(C:Int)/2^kk=((C/2^kk:Nat):Int):=xV C kk;obtain⟨Y,hY⟩:∃Y,C/2^kk=Y:=⟨_,rfl⟩;rw[hY]at sc tr
       have yb:Y<256:=by rw[<-hY];exact Nat.lt_of_le_of_lt (Nat.div_le_self _ _) hc
       have tr2:((Y:Int)).tmod 2=((R.toNat:Nat):Int):=by rw[Int.tmod_eq_emod_of_nonneg (by omega)];omega
       have tr4:(((R.toNat:Nat):Int)==1)=R:=by cases R<;>rfl
       clear hoc hr hY hk tr;have bA:=below_alloc wr (.cells #[.bool R] 4);have own3:=Ap.owns_below own9 bA
       have src3:(wr.alloc (.cells #[.bool R] 4)).cell? ⟨wr.heap.size,0,none⟩=some (.bool R):=(aa.new wr [.bool R] 4).cell 0 rfl;have jb3:=bg jb bA
       have g3:w2.heap.size<=(wr.alloc (.cells #[.bool R] 4)).heap.size:=jb3.size;clear bA own9 jb;generalize ((Mx.rw_ t q).take j).map Value.bool=L9 at *
       go_wp2_with (at_builtin;refine Ap.wpList_append_u rfl _ _ 73 rfl w2.heap.size 4 i4 (.bool false) 1 underlying73 hi4 za4 zb4 zc4 rfl (.slice a9 j c9) j L9 rfl own3 (some ⟨wr.heap.size,0,none⟩) 1 1 [.bool R] rfl rfl ?d1 ?d2 ?d3 ?d4 ?d5 ?_)
       case d1=>exact fun _=>⟨_,rfl,fun j u hj=>by
        match j,hj with
        | 0,hj=>simp at hj;subst hj;exact src3⟩
       case d2=>intro u hu;simp at hu;subst hu;rfl
       case d3=>unfold maxLen;omega
       case d4=>omega
       case d5=>exact g3
       intro so sc' w4 own4 hle4 hB4;have HO:=ag (And.intro own4 (jb3.trans hB4));clear own4 own3 hB4 jb3 src3 g3;go_wp2;refine⟨⟨j+1,by omega,by go_num,?_,HO.out.2⟩,by simp only[intOf];omega⟩;rw[<-bs.out]
       exact HO.out.1
      .obtain rfl:j=i:=by omega
       have eT:(Mx.rw_ t q).take j=Mx.rw_ t q:=List.take_of_length_le (by rw[LR.out];exact Nat.le_refl _);rw[eT]at own9;replace HR:=ag (HR.out.keep jb);replace HO7:=ag (Ap.owns_below HO7.out jb)
       replace HZ:=ag (HZ.out.keep jb);replace H6:=ag (H6.out.kept jb);replace H4:=ag (H4.out.kept jb);replace HB:=ag (bg HB.out jb);have H9:=ag own9
       obtain⟨m,hm⟩:∃m,Hid (m=(aB (Mx.rw_ t q)).length):=⟨_,rfl⟩;have FR1:=ag (fun w0 a9 c9 h1=>FR.out w0 q a9 c9 h1);have BK1:=ag (fun w0 bo dap hb h1 h2=>BK.out w0 q bo dap hb h1 h2)
       have ON1:=ag (fun w0 bo dap h1=>ON.out w0 q bo dap h1);have PT1:=ag (fun w0 oo oc a9 c9 h1 h2=>PT.out w0 q oo oc a9 c9 h1 h2);rw[<-hm.out]at FR1 BK1 ON1;clear own9 jb eT hk FR BK ON PT SY mk hk0 hk8
       go_wp2_with fail;refine(FR1.out _ _ _ (ox H9.out (LR.out q).symm)).mono ?_;rintro e w3 ⟨bo,dap,rfl,x1,x2,hb3⟩;replace HR:=ag (HR.out.keep hb3);replace HO7:=ag (Ap.owns_below HO7.out hb3)
       replace H9:=ag (Ap.owns_below H9.out hb3);replace HZ:=ag (HZ.out.keep hb3);replace H6:=ag (H6.out.kept hb3);replace H4:=ag (H4.out.kept hb3);replace HB:=ag (bg HB.out hb3)
       clear hb3 FR1;have b4:=below_alloc w3 (.cells #[.int .i64 (j:Int),.slice bo m dap] 53);have C12:=ag (aa.new w3 [.int .i64 (j:Int),.slice bo m dap] 53);replace HR:=ag (HR.out.keep b4)
       replace HO7:=ag (Ap.owns_below HO7.out b4);replace H9:=ag (Ap.owns_below H9.out b4);replace HZ:=ag (HZ.out.keep b4);replace H6:=ag (H6.out.kept b4);replace H4:=ag (H4.out.kept b4)
       replace x1:=x1.keep b4;replace HB:=ag (bg HB.out b4);clear b4;have y0:=C12.out.cell 0 rfl;have y1:=C12.out.cell 1 rfl;go_wp2_with fail;refine(BK1.out _ bo dap HB.out x1 x2).mono ?_
       rintro e w5 ⟨cs,rfl,hki,hb5,nf⟩
       have LL:Hid (((∀gg,vL.ownBlock=some gg->NE gg cs)/\∀g0,g0<=w.heap.size+1->NE g0 cs)/\∀gg,vZ.ownBlock=some gg->NE gg cs):=by
        refine⟨⟨fun gg hg=>nf.ne ?_,fun g0 hg0=>nf.ne (by have:=H6.out.lt;omega)⟩,fun gg hg=>nf.ne (HZ.out.lt hg)⟩;rcases HR.out.r.lo with⟨rfl,_⟩ | ⟨g',cp,rfl,_,ce⟩
        .cases hg
        .injection hg with e
         have:=ce.lt;rw[<-e];exact this
       replace HR:=ag (HR.out.keep hb5);replace HO7:=ag (Ap.owns_below HO7.out hb5);replace H9:=ag (Ap.owns_below H9.out hb5);replace HZ:=ag (HZ.out.keep hb5);replace H6:=ag (H6.out.kept hb5)
       replace H4:=ag (H4.out.kept hb5);replace C12:=ag (C12.out.kept hb5);have X1:=ag (x1.keep hb5);replace HB:=ag (bg HB.out hb5);clear hb5 BK1 x1 nf y0 y1;have HL:=ag hki.arg.len
       have H1:=ag hki.arg.one;have H22:=ag (kR.trans hki.arg.nine);have HKI:=ag hki;clear hki;have l4:w.heap.size<w5.heap.size:=H4.out.lt;have l6:w.heap.size+1<w5.heap.size:=H6.out.lt
       go_wp2_with (refine Dd zv mp ?_);intro w6 c13 b6 s6;go_wp2_with (refine aJ w5.heap.size zv cs rfl rfl c13 H22.out HL.out H1.out ?_);intro w7 c13 o7
       have b7:Below w5.heap.size w5 w7:=b6.trans (o7.below (Nat.le_refl _));replace HR:=ag (HR.out.keep b7);replace HO7:=ag (Ap.owns_below HO7.out b7);replace H9:=ag (Ap.owns_below H9.out b7)
       replace HZ:=ag (HZ.out.keep b7);replace H6:=ag (H6.out.kept b7);replace H4:=ag (H4.out.kept b7);replace C12:=ag (C12.out.kept b7);replace X1:=ag (X1.out.keep b7)
       replace HKI:=ag (HKI.out.keep b7);replace HB:=ag (bg HB.out b7);have l7:w5.heap.size<=w7.heap.size:=b7.size;clear b6 s6 o7 b7;generalize w5.heap.size=g13 at *;by_cases z:E=0
       .subst z;have ncs:cs.length=22:=HKI.out.arg.nine.symm
        have H11:Hid (∀u∈cs,u.oneCell'=true):=fun u hu=>by
         have:=H1.out;rw[List.all_toArray,List.all_eq_true]at this;exact this u hu
        obtain⟨g12,hg12⟩:∃g12,g12=w3.heap.size:=⟨_,rfl⟩;rw[<-hg12]at C12;have e12:=hg12.symm;have x2:=H6.out.cell 2 rfl;have fz:=H6.out.frozen 2;have hbn:=below_alloc w7 (.cells cs.toArray 63)
        have cA:=aa.new w7 cs 63;have HRA:=ag (HR.out.keep hbn);have HO7A:=ag (Ap.owns_below HO7.out hbn);have H9A:=ag (Ap.owns_below H9.out hbn);have HZA:=ag (HZ.out.keep hbn)
        have H6A:=ag (H6.out.kept hbn);have H4A:=ag (H4.out.kept hbn);have C12A:=ag (C12.out.kept hbn);have X1A:=ag (X1.out.keep hbn);have HKA:=ag (HKI.out.keep hbn)
        have HBA:=ag (bg HB.out hbn);have HN:=ag ncs;have lA:w.heap.size+1<(w7.alloc (.cells cs.toArray 63)).heap.size:=H6A.out.lt;have l67:w.heap.size+1<w7.heap.size:=H6.out.lt
        have HL22:=ag HRA.out.r.l22;clear hbn ncs HR HO7 H9 HZ H6 H4 C12 X1 HKI HB hg12
        go_wp2_with (first | refine ca g13 cs (by rfl) rfl c13 underlying63 HL.out ?_ | refine GL cs HN.out rfl ?_ | (at_builtin;refine wM rfl _ _ rfl vL css rfl HRA.out.r.lo HL22.out cs HN.out ⟨w7.heap.size,0,none⟩ 1 rfl ?n1 H11.out (by rw[hl.out];omega) ?_))
        intro v' w8 hLO hTn hv
        have hv2:∀gg,v'.ownBlock=some gg->vL.ownBlock=some gg\/gg=(w7.alloc (.cells cs.toArray 63)).heap.size:=fun gg hg=>by
         rw[show(w7.alloc (.cells cs.toArray 63)).heap.size=w7.heap.size+1 by simp];exact hv gg hg
        clear hv
        obtain⟨g',cp',ev⟩:∃g' cp',v'=.slice (some ⟨g',0,none⟩) (q+1) cp':=by
         rcases hLO with⟨_,e⟩ | ⟨g',cp',e1,_,_⟩
         .simp at e
         .refine⟨g',cp',?_⟩;rw[e1,List.length_append,hl.out];rfl
        obtain⟨zo,zc,ez0⟩:=HZA.out.len;have ez:=ag ez0;clear ez0;have hb8:Below w.heap.size w w8:=HBA.out.trans (hTn.below hvL.out HBA.out.size)
        have hR8:=HRA.out.push (by show KI _ cs ((mA k t).getD css.length ra0);rw[hl.out,<-KK.out q hi];exact HKA.out) LL.out.1 LL.out.2 hLO hTn hv2 (HG.out.keep hb8);have h68:=hTn.cel H6A.out (by decide)
        have h48:=hTn.cel H4A.out (by decide);have c128:=hTn.cel C12A.out (by decide);have own78:=td HO7A.out (by decide) hTn;have own98:=td H9A.out (by decide) hTn;have hz8:=HZA.out.tn hTn
        have x18:Wd w8 bo (aB (Mx.rw_ t q)):=by
         rcases hTn with⟨g,cap,_,e1,e2⟩ | hb
         .exact e2.wd X1A.out (X1A.out.apart e1 (tu HRA.out.r _))
         .exact X1A.out.keep hb
        have HVL:Hid (∀gg,v'.ownBlock=some gg->w.heap.size<=gg):=fun gg hg=>by
         rcases hv2 gg hg with e | rfl
         .exact hvL.out gg e
         .exact HBA.out.size
        have nv:bQ [.int .i64 k,.int .i64 (j:Int),vL,vZ]:=fun u hu nn ee=>by
         subst ee;rcases HRA.out.r.lo with⟨rfl,_⟩ | ⟨g',cp,rfl,_,_⟩<;>(rw[ez.out]at hu;simp at hu)
        subst ev;have z2:=h68.cell 2 rfl;have fz2:=h68.frozen 2;have lx8:=h68.lt
        have o9:aC (w.heap.size+1) w8 (w8.setCell ⟨w.heap.size+1,2,none⟩ (.slice (some ⟨g',0,none⟩) (q+1) cp')):=(aC.refl _ _).set 2 _;have hb9:=hb8.trans (o9.below (base:=w.heap.size) (by omega))
        have n12:g12≠w.heap.size+1:=fun e=>by
         rw[e]at c128;have:=lF c128 h68;revert this;decide
        have F1:=ag (hR8.only (Nat.le_refl _) h68 (by decide) nv o9 (HG.out.keep hb9));have F2:=ag (h68.set 2 (.slice (some ⟨g',0,none⟩) (q+1) cp'));have F3:=ag (o9.cel h48 (by omega))
        have F4:=ag (o9.cel c128 n12);have F5:=ag (jl own78 h68 (by decide) o9);have F6:=ag (jl own98 h68 (by decide) o9);have F7:=ag (hz8.only h68 (by decide) o9)
        have F8:=ag (o9.wd x18 (x18.apart h68 nv));have F9:=ag hb9;have l8:Hid ((css++[cs]).length=q+1):=by show _=_;rw[List.length_append,hl.out];rfl
        have zl:=ZL.out q;have zsn:=ag (wn t q);have lz:Hid (((List.range q).map (Mx.zs t)).length=q):=by show _=_;simp
        obtain⟨Y,hY⟩:∃Y,Hid (Y=j-Mx.zs t q):=⟨_,rfl⟩;rw[<-hY.out]at ON1;obtain⟨Zq,hZq⟩:∃Zq,Hid (Zq=Mx.zs t q):=⟨_,rfl⟩;rw[<-hZq.out]at zl zsn
        have eY1:(j:Int)-(Y:Int)=(Zq:Int):=by rw[hY.out,<-hZq.out];omega
        have eY2:IntKind.i64.wrap ((j:Int)-(Y:Int))=(Zq:Int):=by rw[eY1,IntKind.wrap_i64];omega
        have eY4:IntKind.i64.wrap (Zq:Int)=(Zq:Int):=by rw[IntKind.wrap_i64];omega
        have eY5:wrap64 (Zq:Int)=(Zq:Int):=by unfold wrap64;omega
        have eY3:wrap64 ((j:Int)-(Y:Int))=(Zq:Int):=by rw[eY1];exact eY5
        clear hR8 h68 h48 c128 own78 own98 hz8 x18 hb8 nv o9 hLO hTn hv2 HRA H6A H4A HO7A H9A HZA C12A X1A HKA HBA x2 fz hb9 cA c13 hY hZq LL n12 ZL H11 HL H1 H22 HN HL22 hvL e12;go_wp2
        refine bn [12] (fun w'=>aa w' (w.heap.size+1) [.int .i64 k,.int .i64 (j:Int),.slice (some ⟨g',0,none⟩) (q+1) cp',vZ] 27/\aa w' g12 [.int .i64 (j:Int),.slice bo m dap] 53) (by kernel_rfl) ?_
        obtain⟨W9,hW9⟩:∃W9,W9=(w8.setCell ⟨w.heap.size+1,2,none⟩ (.slice (some ⟨g',0,none⟩) (q+1) cp')).drew:=⟨_,rfl⟩
        have bd:Below (w8.setCell ⟨w.heap.size+1,2,none⟩ (.slice (some ⟨g',0,none⟩) (q+1) cp')).heap.size (w8.setCell ⟨w.heap.size+1,2,none⟩ (.slice (some ⟨g',0,none⟩) (q+1) cp')) W9:=by rw[hW9];exact(Below.refl _ _).drew
        rw[<-hW9];replace F1:=ag (F1.out.keep bd);replace F2:=ag (F2.out.kept bd);replace F3:=ag (F3.out.kept bd);replace F4:=ag (F4.out.kept bd);replace F5:=ag (Ap.owns_below F5.out bd)
        replace F6:=ag (Ap.owns_below F6.out bd);replace F7:=ag (F7.out.keep bd);replace F8:=ag (F8.out.keep bd);replace F9:=ag (bg F9.out bd);clear hW9 bd z2 fz2 lx8
        have hS:=And.intro F2.out F4.out;refine aK 0 hS ?_;refine aF 1 hS rfl (fun w0 h0=>by have c3:=h0.1.cell 3 rfl;go_simp;try with_reducible rfl) ?_;refine aK 2 hS ?_
        refine aF 3 hS rfl (fun w0 h0=>by have y0:=h0.2.cell 0 rfl;go_simp;try with_reducible rfl) ?_
        refine aF 4 hS rfl (fun w0 h0=>by have y0:=h0.2.cell 0 rfl;have y1:=h0.2.cell 1 rfl;go_simp;try with_reducible rfl) ?_;refine aK 5 hS ?_
        refine aF 6 hS rfl (fun w0 h0=>by have y0:=h0.2.cell 0 rfl;go_simp;try with_reducible rfl) ?_;refine aO 7 ?_;intro K hK;go_simp;refine mr (ON1.out _ bo dap F8.out) fun w10 hb10=>?_
        replace F1:=ag (F1.out.keep hb10);replace F2:=ag (F2.out.kept hb10);replace F3:=ag (F3.out.kept hb10);replace F4:=ag (F4.out.kept hb10);replace F5:=ag (Ap.owns_below F5.out hb10)
        replace F6:=ag (Ap.owns_below F6.out hb10);replace F7:=ag (F7.out.keep hb10);replace F9:=ag (bg F9.out hb10);clear hb10 F8 ON1 hS;have hS:=And.intro F2.out F4.out
        refine hK.out _ _ (fun _=>hS) ?_;clear hK K;try simp only[Act.put,aw,ar,an,ah,aj,ai]
        refine aK 8 hS ?_;refine aO 9 ?_;intro K hK;go_simp;have bA:=below_alloc w10 (.cells #[.int .i64 (Zq:Int)] 3);have cA:=aa.new w10 [.int .i64 (Zq:Int)] 3;replace F1:=ag (F1.out.keep bA)
        replace F2:=ag (F2.out.kept bA);replace F3:=ag (F3.out.kept bA);replace F4:=ag (F4.out.kept bA);replace F5:=ag (Ap.owns_below F5.out bA);replace F6:=ag (Ap.owns_below F6.out bA)
        replace F7:=ag (F7.out.keep bA);replace F9:=ag (bg F9.out bA);clear bA hS;have hS:=And.intro F2.out F4.out;refine hK.out _ _ (fun _=>hS) ?_;clear hK K
        try simp only[Act.put,aw,ar,an,ah,aj,ai]
        refine aO 10 ?_;intro K hK;refine xC (by rfl) _ _ (by rfl) vZ ((List.range q).map (Mx.zs t)) (by rfl) F7.out Zq ⟨w10.heap.size,0,none⟩ 1 (by rfl) ?c1 (by rw[lz.out];omega) ?_
        case c1=>
         have:=cA.cell 0 rfl;rw[<-this];unfold Addr.add;split
         .subst_vars;rfl
         .simp
        intro u' w11 hz11 hTz hu;rw[zsn.out]at hz11
        obtain⟨zo',zc',eu⟩:∃zo' zc',u'=.slice zo' (q+1) zc':=by
         obtain⟨a1,a2,a3⟩:=hz11.len;exact⟨a1,a2,by rw[a3];simp⟩
        have hb11:Below w.heap.size w w11:=F9.out.trans (hTz.below hvZ.out F9.out.size);have G1:=F1.out.zs hTz hu (HG.out.keep hb11);have G2:=hTz.cel F2.out (by decide);have G3:=hTz.cel F3.out (by decide)
        have G4:=hTz.cel F4.out (by decide);have G5:=Ba F5.out HA.out hTz;have G6:=A_ F6.out (by decide) hTz;have GA:=Ia F5.out HA.out hu
        have HVZ:Hid (∀gg,u'.ownBlock=some gg->w.heap.size<=gg):=fun gg hg=>by
         rcases hu gg hg with e | rfl
         .exact hvZ.out gg e
         .exact F9.out.size
        have nz:bQ [.int .i64 k,.int .i64 (j:Int),.slice (some ⟨g',0,none⟩) (q+1) cp',vZ]:=fun u hu nn ee=>by
         subst ee;rw[ez.out]at hu;simp at hu
        subst eu;clear hS;have hS:=And.intro G2 G4;refine hK.out _ _ (fun _=>hS) ?_;clear hK K;try simp only[Act.put,aw,ar,an,ah,aj,ai]
        refine aK 11 hS ?_;refine aO 12 ?_;intro K hK;have x3:=G2.cell 3 rfl;have y3:=G2.frozen 3;go_simp;refine hK.out _ _ (fun h=>absurd (by decide) h) ?_;clear hK K
        try simp only[Act.put,aw,ar,an,ah,aj,ai]
        refine az.done (by kernel_rfl) ?_ _;have o12:aC (w.heap.size+1) w11 (w11.setCell ⟨w.heap.size+1,3,none⟩ (.slice zo' (q+1) zc')):=(aC.refl _ _).set 3 _
        have hb12:=hb11.trans (o12.below (base:=w.heap.size) (by omega));have K1:=ag (G1.only (Nat.le_refl _) G2 (by decide) nz o12 (HG.out.keep hb12));have K2:=ag (G2.set 3 (.slice zo' (q+1) zc'))
        have K3:=ag (o12.cel G3 (by omega));have K5:=ag (jl G5 G2 (by decide) o12);have K6:=ag (jl G6 G2 (by decide) o12);have K7:=ag (hz11.only G2 (by decide) o12);have K9:=ag hb12
        have KA:=ag GA;clear hS G1 G2 G3 G4 G5 G6 GA hz11 hTz hu hb11 hb12 o12 nz x3 y3 F1 F2 F3 F4 F5 F6 F7 F9 cA HA hvZ;go_wp2_with fail
        refine(PT1.out _ oo oc a9 c9 (lZ K5.out (LS.out q).symm) (ox K6.out (LR.out q).symm)).mono ?_;rintro e w13 ⟨o2,c2,rfl,own2,hb13⟩
        have ap2:Ap.Apart (.slice o2 j c2) (.slice zo' (q+1) zc'):=fun k hk hu=>by
         obtain⟨_,_,_,_,hh⟩:=Ap.owns_shape own2;have:=(hh k hk).1;have:=K7.out.lt hu;omega
        have M1:=ag (K1.out.keep hb13);have M2:=ag (K2.out.kept hb13);have M3:=ag (K3.out.kept hb13);have M5:=ag own2;have M7:=ag (K7.out.keep hb13);have M9:=ag (bg K9.out hb13)
        have MA:=ag ap2;clear K1 K2 K3 K5 K6 K7 K9 KA own2 hb13 ap2 PT1;go_wp2
        exact⟨⟨q+1,css++[cs],.slice (some ⟨g',0,none⟩) (q+1) cp',.slice zo' (q+1) zc',o2,c2,_,by omega,by go_num,rfl,l8,ag (fun _=>trivial),HVL,HVZ,M1,M5,M7,MA,M2,M3,M9⟩,by simp only[intOf];omega⟩
       .have zz:(E != 0)=true:=by simp[z]
        have eB:cO k t=⟨0,0,[],[]⟩:=by unfold cO;rw[if_neg (by rw[<-hE.out];exact z)]
        have G7:=HG.out.keep HB.out;clear HR H6 HKI c13 HO7 H9 HZ HA C12 X1 LL
        go_wp2_with (refine aJ w.heap.size [.int .i64 0,.int .i64 0,.slice none 0 0,.slice none 0 0] [.int .i64 0,.int .i64 0,.slice none 0 0,.slice none 0 0] rfl rfl H4.out rfl (by kernel_rfl) (by simp[Value.oneCell']) ?_)
        intro w8 c8' o8;have HC:=ag (And.intro c8' (HB.out.trans (o8.below (Nat.le_refl _))));clear c8' o8 H4;go_wp2
        (try simp only[Exit.inBlock,Exit.then]);refine bodyPost_ret (a_ rfl w.heap.size _ rfl HC.out.1 underlying27 (by kernel_rfl)) rfl ⟨none,0,none,0,?_,?_,HC.out.2⟩
        .rw[eB];rfl
        .rw[eB];exact⟨⟨by decide,by decide⟩,⟨by decide,by decide⟩,fun h=>absurd h (by decide),fun h=>absurd h (by decide),by decide,by decide,HG.out.keep HC.out.2⟩
    .obtain rfl:q=8:=by omega
     have z:=h0.out (by decide);subst z;obtain⟨lo,lc,rfl,hlv⟩:=HR.out.r.lv (by rw[hl.out,fK]);obtain⟨zo,zc,rfl⟩:=HZ.out.len;have eB:cO k t=mRx k t:=by unfold cO;rw[if_pos hE.out.symm]
     have hnz:=HZ.out.nd;have lz:((List.range 8).map (Mx.zs t)).length=8:=by simp
     have la:(mA k t).length=8:=fK k t;have HLV:=ag (And.intro hlv hnz);rw[lz,la]at H6;have H6':=H6.out;have x0:=H6'.cell 0 rfl;have x1:=H6'.cell 1 rfl;have x2:=H6'.cell 2 rfl;have x3:=H6'.cell 3 rfl
     have nz0:bQ [.int .i64 0,.int .i64 0,.slice none 0 0,.slice none 0 0]:=fun u hu nn ee=>by subst ee;simp at hu
     have o6':∀w6,aC w.heap.size wr w6->Hid (Lv w6 lo (mA k t)/\Nd w6 zo (mI (mZ t))/\Below w.heap.size w w6):=fun w6 o6=>by
      have hb6:=HB.out.trans (o6.below (Nat.le_refl _));have r6:=HR.out.only (Nat.le_succ _) H4.out (by decide) nz0 o6 (HG.out.keep hb6);obtain⟨lo',lc',e1,hl'⟩:=r6.r.lv (by rw[hl.out,fK])
      injection e1 with e1 e2 e3
      subst e1;exact⟨hl',(HZ.out.only H4.out (by decide) o6).nd,hb6⟩
     have OO:=ag o6';clear hlv hnz o6' FR BK ON PT SY KK ZL LS LR HR HZ HA HO7 H6' H6 HLV
     go_wp2_with (refine aJ w.heap.size [.int .i64 0,.int .i64 0,.slice none 0 0,.slice none 0 0] [.int .i64 k,.int .i64 (i:Int),.slice lo 8 lc,.slice zo 8 zc] rfl rfl H4.out rfl (by kernel_rfl) (by simp[Value.oneCell']) ?_)
     intro w6 c6 o6;have HC:=ag (And.intro c6 (OO.out w6 o6).out);clear c6 o6 H4 x0 x1 x2 x3 OO;go_wp2
     (try simp only[Exit.inBlock,Exit.then]);refine bodyPost_ret (a_ rfl w.heap.size _ rfl HC.out.1 underlying27 (by kernel_rfl)) rfl ⟨lo,lc,zo,zc,?_,?_,HC.out.2.2.2⟩
     .rw[eB];unfold mRx;rw[<-hnn.out,la,dh,gn];rfl
     .rw[eB]
      exact⟨hK,⟨by show _<=((t.length:Nat):Int);omega,by show((t.length:Nat):Int)<=_;rw[<-hnn.out];omega⟩,HC.out.2.1,HC.out.2.2.1,by show(mA k t).length<=_;rw[la];decide,by show(mI (mZ t)).length<=_;rw[dh,gn];decide,HG.out.keep HC.out.2.2.2⟩
end Go.Proofs.YtleegaihbgbcjabGreatDoor
namespace Go.Proofs.YtleegaihbgbcjabGreatDoor
open Num Bit Bn
theorem rm{a:cQ}(h:z7 a=true):a=n7:=by
 cases a;simp[z7,norw]at h;simp[n7,h]
theorem rj{a:aT}(h:z8 a=true):a=n8:=by
 cases a;simp[z8,norw]at h;simp[n8,h]
theorem ri{a:bF}(h:z9 a=true):a=n9:=by
 cases a;simp[z9,norw]at h;simp[n9,h]
theorem D8(a:cQ)(h:kOk7 a=true):kB7 (kBN7 a) (kBX7 a)=a/\kE7 (kBN7 a) (kBX7 a)=0:=by
 have h':=h;unfold kOk7 pchk at h';simp only[Bool.and_eq_true,decide_eq_true_eq]at h';obtain⟨h1,h2,h3⟩:=h';have e1:kBN7 a=a.N:=by unfold kBN7 gJ;exact if_pos h
 have e2:kBX7 a=a.xs:=by unfold kBX7 fw;exact if_pos h
 rw[e1,e2];unfold kB7 gK ei eH es kE7 jM;rw[if_pos h1,if_pos h1,if_pos h1,if_pos h1,if_pos h1,<-h2,<-h3];exact⟨rfl,rfl⟩
theorem D5(a:aT)(h:kOk8 a=true):kB8 (kBN8 a) (kBX8 a)=a/\kE8 (kBN8 a) (kBX8 a)=0:=by
 have hk:=nT a h;obtain⟨_,_,_,h4⟩:=kA _ _ _ _ _ _ _ _ _ h;obtain⟨g1,g2,g3,g4,g5,g6,g7,g8,g9⟩:=oZ _ _ _ _ _ _ _ _ _ _ _ h4
 have e1:kBN8 a=(rwN (rDec a.N a.k a.V a.xs a.L a.ys):Int):=by unfold kBN8 fJ;exact if_pos h
 have e2:kBX8 a=rwX (rDec a.N a.k a.V a.xs a.L a.ys):=by unfold kBX8 dO;exact if_pos h
 rw[e1,e2]at hk⊢;refine⟨?_,if_pos hk⟩;unfold kB8 fm fu fk fp dL fq dK dJ dI
 rw[if_pos hk,if_pos hk,if_pos hk,if_pos hk,if_pos hk,if_pos hk,if_pos hk,if_pos hk,if_pos hk,Int.toNat_natCast,<-g1,<-g4,<-g2,<-g5,<-g6,<-g7,<-g8,<-g9,<-g3]
theorem D3(a:bF)(h:kOk9 a=true):kB9 (kBN9 a) (kBX9 a)=a/\kE9 (kBN9 a) (kBX9 a)=0:=by
 have hk:=kV a h;obtain⟨_,h2⟩:=mg a h;obtain⟨_,_,hr⟩:=ui a h;have e1:kBN9 a=a.N:=by unfold kBN9;exact if_pos h
 have e2:kBX9 a=rowOf a.N.toNat (isIn (kRow a)):=by unfold kBX9;exact if_pos h
 rw[e1,e2]at hk⊢;refine⟨?_,if_pos hk⟩;unfold kB9;rw[if_pos hk,sV _ (isIn (kRow a)) _ fun i hi=>by rw[eQ,decide_eq_true hi,Bool.true_and],sT hr];exact h2.symm
theorem uj(a:RA)(h:aQ a=true):1<=a.K/\a.K<=3/\kB a.K (kBN a) (aR a)=a:=by
 have key:kOn a≠0->cF a=true/\a.K=kOn a:=fun h0=>by
  by_cases z:cF a=true
  .exact⟨z,by unfold kOn;rw[if_pos z]⟩
  .exact absurd (by unfold kOn;rw[if_neg z]) h0
 obtain⟨K,p,r,f⟩:=a;by_cases h1:kOn ⟨K,p,r,f⟩=1
 .obtain⟨z,k⟩:=key (by omega);obtain⟨e1,e2,e3,_⟩:=im h1;rw[h1]at k;dsimp only at k;subst k;simp[cF]at z;obtain rfl:=rj z.1;obtain rfl:=ri z.2;obtain⟨g1,g2⟩:=D8 p (e1.symm.trans h);rw[e2,e3]
  refine⟨by dsimp only;decide,by dsimp only;decide,?_⟩;dsimp only;rw[nS _ _ g2,g1]
 by_cases h2:kOn ⟨K,p,r,f⟩=2
 .obtain⟨z,k⟩:=key (by omega);obtain⟨e1,e2,e3,_⟩:=il h2;rw[h2]at k;dsimp only at k;subst k;simp[cF]at z;obtain rfl:=rm z.1;obtain rfl:=ri z.2;obtain⟨g1,g2⟩:=D5 r (e1.symm.trans h);rw[e2,e3]
  refine⟨by dsimp only;decide,by dsimp only;decide,?_⟩;dsimp only;rw[nR _ _ g2,g1]
 by_cases h3:kOn ⟨K,p,r,f⟩=3
 .obtain⟨z,k⟩:=key (by omega);obtain⟨e1,e2,e3,_⟩:=fA h3;rw[h3]at k;dsimp only at k;subst k;simp[cF]at z;obtain rfl:=rm z.1;obtain rfl:=rj z.2;obtain⟨g1,g2⟩:=D3 f (e1.symm.trans h);rw[e2,e3]
  refine⟨by dsimp only;decide,by dsimp only;decide,?_⟩;dsimp only;rw[mj _ _ g2,g1]
 rw[(gc h1 h2 h3).1]at h;cases h
def jq(x:MR):Bool:=decide (x.av.length=8)&&(decide (0<=x.N/\x.N<=8192)&&(List.range 8).all fun l=>decide (kBN (bp x l)=x.N))
def gS(x:MR)(l:Nat):List Bool:=(List.range x.N.toNat).map fun i=>bitAt (aR (bp x l)) i
def mX(x:MR):List Nat:=if jq x then Mx.tx (gS x) x.N.toNat else []
theorem pQ(x:MR)(l:Nat):(gS x l).length=x.N.toNat:=by simp[gS]
theorem GQ(x:MR)(l i:Nat)(h:i<x.N.toNat):bt (gS x l) i=bitAt (aR (bp x l)) i:=by
 unfold bt gS;rw[List.getD_eq_getElem?_getD,List.getElem?_map,List.getElem?_range h];rfl
theorem ua{x:MR}(h:x.av.length≠8\/x.N<0\/8192<x.N):jq x=false:=by
 unfold jq;rcases h with h | h
 .rw[decide_eq_false h];rfl
 .rw[decide_eq_false (show ¬(0<=x.N/\x.N<=8192)by omega)];simp
theorem Dk{x:MR}(l:Nat)(hl:l<8)(h:kBN (bp x l)≠x.N):jq x=false:=by
 refine Bool.eq_false_iff.2 fun e=>?_;unfold jq at e;simp only[Bool.and_eq_true,List.all_eq_true,decide_eq_true_eq]at e;exact h (e.2.2 l (List.mem_range.2 hl))
theorem t_{x:MR}(h1:x.av.length=8)(h2:0<=x.N/\x.N<=8192)(h:∀l,l<8->kBN (bp x l)=x.N):jq x=true:=by
 unfold jq;simp only[Bool.and_eq_true,List.all_eq_true,decide_eq_true_eq];exact⟨h1,h2,fun l hl=>h l (List.mem_range.1 hl)⟩
theorem tY(x:MR)(h:x.N<=600):(mX x).length<=600:=by
 unfold mX;split
 .rw[Mx.length_tx];omega
 .exact Nat.zero_le _
theorem GB(x:MR):fV (mX x):=by
 unfold mX;split
 .exact Mx.byt_tx _ _
 .exact fun i=>by unfold gt;simp
theorem kJ{x:MR}{l:Nat}(h:gj x l=true):aQ (bp x l)=true/\0<=x.N/\kBN (bp x l)=x.N/\(bp x l).K=x.K/\(cB (aR (bp x l)) false x.N.toNat:Int)=gi x.zs l:=by
 unfold gj at h;simp only[Bool.and_eq_true,decide_eq_true_eq]at h;obtain⟨h1,h2,h3,h4⟩:=h;have h5:=h1;unfold grN at h2;rw[if_pos h1]at h2;unfold grE at h5;cases ok:aQ (bp x l)with
 | false=>rw[ok]at h5;simp at h5
 | true=>
  rw[ok,if_pos rfl]at h5;refine⟨rfl,?_,h4,h3,h2⟩;by_cases c:x.N<0
  .rw[if_pos (.inl c)]at h5;cases h5
  .omega
theorem Dj(x:MR)(hf:∀l,l<8->aA (aR (bp x l)))(hN:x.N<=600):mOk x=true↔(1<=x.K/\x.K<=3)/\x=mRx x.K (mX x):=by
 constructor
 .intro h;obtain⟨g1,g2,g3,g4⟩:=pL h;have n0:0<=x.N:=(kJ (g4 0 (by decide))).2.1;have eA:jq x=true:=t_ g2 ⟨n0,g1⟩ fun l hl=>(kJ (g4 l hl)).2.2.1
  have eX:mX x=Mx.tx (gS x) x.N.toNat:=by unfold mX;rw[if_pos eA]
  have eL:(mX x).length=x.N.toNat:=by rw[eX,Mx.length_tx]
  have eR:∀l,l<8->Mx.rw_ (mX x) l=gS x l:=fun l hl=>by
   rw[eX];exact Mx.rw_tx (gS x) x.N.toNat (fun l _=>pQ x l) l hl l (Nat.le_refl _)
  have eF:∀l,l<8->aB (Mx.rw_ (mX x) l)=aR (bp x l):=fun l hl=>by
   obtain⟨k1,_,k3,_,_⟩:=kJ (g4 l hl);have c:=jY _ k1;rw[k3]at c;rw[eR l hl];unfold aB;rw[pQ,j2 _ _ (hf l hl) c];exact di _ _ _ fun i hi=>GQ x l i hi
  have hk:1<=x.K/\x.K<=3:=by
   obtain⟨k1,_,_,k4,_⟩:=kJ (g4 0 (by decide));have:=uj _ k1;rw[k4]at this;exact⟨this.1,this.2.1⟩
  refine⟨hk,?_⟩;have eN:((mX x).length:Int)=x.N:=by rw[eL];omega
  have ea:x.av=mA x.K (mX x):=by
   refine List.ext_getElem (by rw[g2,fK]) fun l h1 h2=>?_;have hl:l<8:=by rw[<-g2];exact h1
   obtain⟨k1,_,k3,k4,_⟩:=kJ (g4 l hl);have s:=(uj _ k1).2.2;rw[k3,k4]at s;have e1:bp x l=x.av[l]:=by unfold bp;rw[List.getD_eq_getElem?_getD,List.getElem?_eq_getElem h1];rfl
   have e3:(mA x.K (mX x)).getD l ra0=(mA x.K (mX x))[l]:=by rw[List.getD_eq_getElem?_getD,List.getElem?_eq_getElem h2];rfl
   refine e1.symm.trans (Eq.trans ?_ e3);rw[kK _ _ hl,eF l hl,eN];exact s.symm
  have ez:x.zs=mI (mZ (mX x)):=by
   refine List.ext_getElem (by rw[g3,dh,gn]) fun l h1 h2=>?_;have hl:l<8:=by rw[<-g3];exact h1
   obtain⟨_,_,_,_,k5⟩:=kJ (g4 l hl);have e1:gi x.zs l=x.zs[l]:=by unfold gi;rw[List.getD_eq_getElem?_getD,List.getElem?_eq_getElem h1];rfl
   have e2:gi (mI (mZ (mX x))) l=(mI (mZ (mX x)))[l]:=by unfold gi;rw[List.getD_eq_getElem?_getD,List.getElem?_eq_getElem h2];rfl
   refine e1.symm.trans (Eq.trans ?_ e2);rw[<-k5,ip _ _ (by rw[gn];exact hl),pK _ hl,<-eF l hl,qA _ _ _ (by rw[Mx.length_rw,eL];exact Nat.le_refl _)];unfold Mx.zs;rw[Mx.length_rw,eL]
  generalize mX x=t at *;cases x;dsimp only at *;unfold mRx;rw[<-ea,<-ez,eN]
 .rintro⟨hk,h2⟩;rw[h2];exact pD hk (by have:=tY x hN;omega)
end Go.Proofs.YtleegaihbgbcjabGreatDoor
namespace Go.Proofs.YtleegaihbgbcjabGreatDoor
open Go.RowKit Num Bit
theorem BL(N:Int)(n:Nat):norw [(N,n)]=(decide (N=0)&&decide ((n:Int)=0)):=by simp[norw]
theorem tz(p q:Int×Nat):norw [p,q]=(norw [p]&&norw [q]):=by simp[norw]
theorem nC(N:Int)(ao:Option Addr)(n cap:Nat)(w:World):
  Qq 187 #[.agg #[.int .i64 N,.slice ao n cap]] w (.bool (norw [(N,n)])):=by
 rw[BL];by_cases q:N=0
 .subst q;by_cases r:(n:Int)=0
  .have d:((n:Int)==0)=true:=by simp only[r];rfl
   rw[decide_eq_true r];go_enter func187,ntmps187;go_wp2;go_ret;exact⟨rfl,below_alloc _ _⟩
  .have d:((n:Int)==0)=false:=beq_eq_false_iff_ne.2 r;rw[decide_eq_false r];go_enter func187,ntmps187;go_wp2;go_ret;exact⟨rfl,below_alloc _ _⟩
 .have d:(N==0)=false:=beq_eq_false_iff_ne.2 q;rw[decide_eq_false q];go_enter func187,ntmps187;go_wp2;go_ret;exact⟨rfl,below_alloc _ _⟩
def iC(k V M:Int)(n:Nat):Bool:=decide (k=0)&&(decide (V=0)&&norw [(M,n)])
theorem tA(k V M:Int)(ao:Option Addr)(n cap:Nat)(w:World):
  Qq 188 #[.agg #[.int .i64 k,.int .i64 V,.int .i64 M,.slice ao n cap]] w (.bool (iC k V M n)):=by
 unfold iC;by_cases q:k=0
 .subst q;by_cases r:V=0
  .subst r;have C:=nC M ao n cap;generalize norw [(M,n)]=R at *;go_enter func188,ntmps188;go_wp2_with fail;refine mr (C _) fun w1 hb=>?_;have bw:=(below_alloc w _).trans (hb.mono (by simp))
   go_wp2;go_ret;exact⟨by cases R<;>rfl,bw⟩
  .have d:(V==0)=false:=beq_eq_false_iff_ne.2 r;rw[decide_eq_false r];go_enter func188,ntmps188;go_wp2;go_ret;exact⟨rfl,below_alloc _ _⟩
 .have d:(k==0)=false:=beq_eq_false_iff_ne.2 q;rw[decide_eq_false q];go_enter func188,ntmps188;go_wp2;go_ret;exact⟨rfl,below_alloc _ _⟩
theorem ww(cs:List Value)(a:RA)(w:World)(h:KI w cs a):
  Qq 167 #[.agg cs.toArray] w (.bool (cF a)):=by
 obtain⟨⟨cp,cr,cf,rfl,hK,h1,h2,h3⟩,sm⟩:=h;have s1:=sm.p2;have s2:=sm.p3;have s3:=sm.r3;have s4:=sm.r4;clear sm
 obtain⟨K,⟨N,xs,S,T⟩,⟨N8,k8,V8,M8,x8,L8,y8,S8,T8⟩,⟨N9,M9,k9,V9,L9,x9,H9,y9⟩⟩:=a;dsimp only at *;obtain⟨ao,cap,so,sc,tO,tc,rfl, -⟩:=h1;obtain⟨a8,e8,q8,d8,s8,f8,t8,g8,rfl, -⟩:=h2
 obtain⟨a9,e9,q9,d9,rfl, -⟩:=h3;dsimp only at *;obtain⟨Z,hZ⟩:∃Z,Hid (Z=cF ⟨K,⟨N,xs,S,T⟩,⟨N8,k8,V8,M8,x8,L8,y8,S8,T8⟩,⟨N9,M9,k9,V9,L9,x9,H9,y9⟩⟩):=⟨_,rfl⟩
 obtain⟨A,hA⟩:∃A,Hid (A=z7 ⟨N,xs,S,T⟩):=⟨_,rfl⟩;obtain⟨B,hB⟩:∃B,Hid (B=z8 ⟨N8,k8,V8,M8,x8,L8,y8,S8,T8⟩):=⟨_,rfl⟩;obtain⟨C,hC⟩:∃C,Hid (C=z9 ⟨N9,M9,k9,V9,L9,x9,H9,y9⟩):=⟨_,rfl⟩
 have hZ2:Hid (Z=((decide (K=1)||A)&&((decide (K=2)||B)&&(decide (K=3)||C)))):=by
  show Z=_;rw[hZ.out,hA.out,hB.out,hC.out];rfl
 rw[<-hZ.out]
 have EA:Hid (A=(norw [(N,xs.length)]&&decide ((S.length:Int)+(T.length:Int)=0))):=by
  show A=_;rw[hA.out];unfold z7;dsimp only;congr 1;rw[<-Bool.decide_and];congr 1;simp only[eq_iff_iff];omega
 have EB:Hid (B=(decide (N8=0)&&(iC k8 V8 M8 x8.length&&(norw [(L8,y8.length)]&&decide ((S8.length:Int)+(T8.length:Int)=0))))):=by
  show B=_;rw[hB.out];unfold z8 iC;dsimp only
  rw[tz,show decide ((S8.length:Int)+(T8.length:Int)=0)=(decide ((S8.length:Int)=0)&&decide ((T8.length:Int)=0))by rw[<-Bool.decide_and];congr 1;simp only[eq_iff_iff];omega]
  simp only[Bool.and_assoc]
 have EC:Hid (C=(decide (N9=0)&&(decide (M9=0)&&(iC k9 V9 L9 x9.length&&norw [(H9,y9.length)])))):=by
  show C=_;rw[hC.out];unfold z9 iC;dsimp only;rw[tz];simp only[Bool.and_assoc]
 clear hZ hA hB hC;have wS:IntKind.i64.wrap ((S.length:Int)+(T.length:Int))=(S.length:Int)+(T.length:Int):=by rw[IntKind.wrap_i64];omega
 have wS8:IntKind.i64.wrap ((S8.length:Int)+(T8.length:Int))=(S8.length:Int)+(T8.length:Int):=by rw[IntKind.wrap_i64];omega
 have N1:Hid (∀w0:World,Qq 187 #[.agg #[.int .i64 N,.slice ao xs.length cap]] w0 (.bool (norw [(N,xs.length)]))):=fun w0=>nC N ao xs.length cap w0
 have N2:Hid (∀w0:World,Qq 188 #[.agg #[.int .i64 k8,.int .i64 V8,.int .i64 M8,.slice a8 x8.length e8]] w0 (.bool (iC k8 V8 M8 x8.length))):=fun w0=>tA k8 V8 M8 a8 x8.length e8 w0
 have N3:Hid (∀w0:World,Qq 187 #[.agg #[.int .i64 L8,.slice q8 y8.length d8]] w0 (.bool (norw [(L8,y8.length)]))):=fun w0=>nC L8 q8 y8.length d8 w0
 have N4:Hid (∀w0:World,Qq 188 #[.agg #[.int .i64 k9,.int .i64 V9,.int .i64 L9,.slice a9 x9.length e9]] w0 (.bool (iC k9 V9 L9 x9.length))):=fun w0=>tA k9 V9 L9 a9 x9.length e9 w0
 have N5:Hid (∀w0:World,Qq 187 #[.agg #[.int .i64 H9,.slice q9 y9.length d9]] w0 (.bool (norw [(H9,y9.length)]))):=fun w0=>nC H9 q9 y9.length d9 w0
 have B0:aa (w.alloc (.cells ([.int .i64 K,.int .i64 N,.slice ao xs.length cap,.slice so S.length sc,.slice tO T.length tc,.int .i64 N8,.int .i64 k8,.int .i64 V8,.int .i64 M8,.slice a8 x8.length e8,.int .i64 L8,.slice q8 y8.length d8,.slice s8 S8.length f8,.slice t8 T8.length g8,.int .i64 N9,.int .i64 M9,.int .i64 k9,.int .i64 V9,.int .i64 L9,.slice a9 x9.length e9,.int .i64 H9,.slice q9 y9.length d9]:List Value).toArray 63)) w.heap.size [.int .i64 K,.int .i64 N,.slice ao xs.length cap,.slice so S.length sc,.slice tO T.length tc,.int .i64 N8,.int .i64 k8,.int .i64 V8,.int .i64 M8,.slice a8 x8.length e8,.int .i64 L8,.slice q8 y8.length d8,.slice s8 S8.length f8,.slice t8 T8.length g8,.int .i64 N9,.int .i64 M9,.int .i64 k9,.int .i64 V9,.int .i64 L9,.slice a9 x9.length e9,.int .i64 H9,.slice q9 y9.length d9] 63:=aa.new w _ _
 have bw:Below w.heap.size w (w.alloc (.cells ([.int .i64 K,.int .i64 N,.slice ao xs.length cap,.slice so S.length sc,.slice tO T.length tc,.int .i64 N8,.int .i64 k8,.int .i64 V8,.int .i64 M8,.slice a8 x8.length e8,.int .i64 L8,.slice q8 y8.length d8,.slice s8 S8.length f8,.slice t8 T8.length g8,.int .i64 N9,.int .i64 M9,.int .i64 k9,.int .i64 V9,.int .i64 L9,.slice a9 x9.length e9,.int .i64 H9,.slice q9 y9.length d9]:List Value).toArray 63)):=below_alloc w _
 generalize hsum:(S.length:Int)+(T.length:Int)=s7 at *;generalize hsum8:(S8.length:Int)+(T8.length:Int)=s78 at *;go_enter func167,ntmps167;go_upto_region 1 with fail
 go_cut [3] (fun s3 wx=>s3=.bool A/\aa wx w.heap.size [.int .i64 K,.int .i64 N,.slice ao xs.length cap,.slice so S.length sc,.slice tO T.length tc,.int .i64 N8,.int .i64 k8,.int .i64 V8,.int .i64 M8,.slice a8 x8.length e8,.int .i64 L8,.slice q8 y8.length d8,.slice s8 S8.length f8,.slice t8 T8.length g8,.int .i64 N9,.int .i64 M9,.int .i64 k9,.int .i64 V9,.int .i64 L9,.slice a9 x9.length e9,.int .i64 H9,.slice q9 y9.length d9] 63/\Below w.heap.size w wx)
 case first=>
  have c1:=B0.cell 1 rfl;have c2:=B0.cell 2 rfl;have c3:=B0.cell 3 rfl;have c4:=B0.cell 4 rfl;cases hn:norw [(N,xs.length)]with
  | false=>
   rw[hn]at N1;go_wp2_with fail;refine mr (N1.out _) fun w1 hb=>?_;replace B0:=B0.kept hb;replace bw:=bg bw hb;clear hb c1 c2 c3 c4;have c1:=B0.cell 1 rfl;have c2:=B0.cell 2 rfl
   have c3:=B0.cell 3 rfl;have c4:=B0.cell 4 rfl;go_wp2_with fail;go_meet;refine⟨?_,B0,bw⟩;rw[EA.out];simp[hn]
  | true=>
   rw[hn]at N1;by_cases q:s7=0
   .have d:(s7==0)=true:=by simp[q]
    go_wp2_with fail;refine mr (N1.out _) fun w1 hb=>?_;replace B0:=B0.kept hb;replace bw:=bg bw hb;clear hb c1 c2 c3 c4;have c1:=B0.cell 1 rfl;have c2:=B0.cell 2 rfl
    have c3:=B0.cell 3 rfl;have c4:=B0.cell 4 rfl;go_wp2_with fail;go_meet;refine⟨?_,B0,bw⟩;rw[EA.out];simp[hn,q]
   .have d:(s7==0)=false:=by simp[q]
    go_wp2_with fail;refine mr (N1.out _) fun w1 hb=>?_;replace B0:=B0.kept hb;replace bw:=bg bw hb;clear hb c1 c2 c3 c4;have c1:=B0.cell 1 rfl;have c2:=B0.cell 2 rfl
    have c3:=B0.cell 3 rfl;have c4:=B0.cell 4 rfl;go_wp2_with fail;go_meet;refine⟨?_,B0,bw⟩;rw[EA.out];simp[hn,q]
 case rest=>
 obtain⟨rfl,B1,bw1⟩:=hcut;clear N1 EA B0 bw wS hsum;have B0:=B1;have bw:=bw1;clear B1 bw1;go_upto_region 2 with fail
 go_cut [4] (fun s4 wx=>s4=.bool B/\aa wx w.heap.size [.int .i64 K,.int .i64 N,.slice ao xs.length cap,.slice so S.length sc,.slice tO T.length tc,.int .i64 N8,.int .i64 k8,.int .i64 V8,.int .i64 M8,.slice a8 x8.length e8,.int .i64 L8,.slice q8 y8.length d8,.slice s8 S8.length f8,.slice t8 T8.length g8,.int .i64 N9,.int .i64 M9,.int .i64 k9,.int .i64 V9,.int .i64 L9,.slice a9 x9.length e9,.int .i64 H9,.slice q9 y9.length d9] 63/\Below w.heap.size w wx)
 case first=>
  have c5:=B0.cell 5 rfl;have c6:=B0.cell 6 rfl;have c7:=B0.cell 7 rfl;have c8:=B0.cell 8 rfl;have c9:=B0.cell 9 rfl;have c10:=B0.cell 10 rfl;have c11:=B0.cell 11 rfl;have c12:=B0.cell 12 rfl
  have c13:=B0.cell 13 rfl;by_cases q:N8=0;rotate_left
  .have d:(N8==0)=false:=by simp[q]
   go_wp2_with fail;go_meet;refine⟨?_,B0,bw⟩;rw[EB.out];simp[q]
  subst q;cases hn:iC k8 V8 M8 x8.length with
  | false=>
   rw[hn]at N2;go_wp2_with fail;refine mr (N2.out _) fun w1 hb=>?_;replace B0:=B0.kept hb;replace bw:=bg bw hb;clear hb c5 c6 c7 c8 c9 c10 c11 c12 c13;have c5:=B0.cell 5 rfl
   have c6:=B0.cell 6 rfl;have c7:=B0.cell 7 rfl;have c8:=B0.cell 8 rfl;have c9:=B0.cell 9 rfl;have c10:=B0.cell 10 rfl;have c11:=B0.cell 11 rfl;have c12:=B0.cell 12 rfl;have c13:=B0.cell 13 rfl;go_wp2_with fail
   go_meet;refine⟨?_,B0,bw⟩;rw[EB.out];simp[hn]
  | true=>
   rw[hn]at N2;cases hm:norw [(L8,y8.length)]with
   | false=>
    rw[hm]at N3;go_wp2_with fail;refine mr (N2.out _) fun w1 hb=>?_;replace B0:=B0.kept hb;replace bw:=bg bw hb;clear hb c5 c6 c7 c8 c9 c10 c11 c12 c13;have c5:=B0.cell 5 rfl
    have c6:=B0.cell 6 rfl;have c7:=B0.cell 7 rfl;have c8:=B0.cell 8 rfl;have c9:=B0.cell 9 rfl;have c10:=B0.cell 10 rfl;have c11:=B0.cell 11 rfl;have c12:=B0.cell 12 rfl;have c13:=B0.cell 13 rfl
    go_wp2_with fail;refine mr (N3.out _) fun w2 hb=>?_;replace B0:=B0.kept hb;replace bw:=bg bw hb;clear hb c5 c6 c7 c8 c9 c10 c11 c12 c13;have c5:=B0.cell 5 rfl;have c6:=B0.cell 6 rfl
    have c7:=B0.cell 7 rfl;have c8:=B0.cell 8 rfl;have c9:=B0.cell 9 rfl;have c10:=B0.cell 10 rfl;have c11:=B0.cell 11 rfl;have c12:=B0.cell 12 rfl;have c13:=B0.cell 13 rfl;go_wp2_with fail;go_meet
    refine⟨?_,B0,bw⟩;rw[EB.out];simp[hn,hm]
   | true=>
    rw[hm]at N3;by_cases q:s78=0
    .have d:(s78==0)=true:=by simp[q]
     go_wp2_with fail;refine mr (N2.out _) fun w1 hb=>?_;replace B0:=B0.kept hb;replace bw:=bg bw hb;clear hb c5 c6 c7 c8 c9 c10 c11 c12 c13;have c5:=B0.cell 5 rfl;have c6:=B0.cell 6 rfl
     have c7:=B0.cell 7 rfl;have c8:=B0.cell 8 rfl;have c9:=B0.cell 9 rfl;have c10:=B0.cell 10 rfl;have c11:=B0.cell 11 rfl;have c12:=B0.cell 12 rfl;have c13:=B0.cell 13 rfl;go_wp2_with fail
     refine mr (N3.out _) fun w2 hb=>?_;replace B0:=B0.kept hb;replace bw:=bg bw hb;clear hb c5 c6 c7 c8 c9 c10 c11 c12 c13;have c5:=B0.cell 5 rfl;have c6:=B0.cell 6 rfl
     have c7:=B0.cell 7 rfl;have c8:=B0.cell 8 rfl;have c9:=B0.cell 9 rfl;have c10:=B0.cell 10 rfl;have c11:=B0.cell 11 rfl;have c12:=B0.cell 12 rfl;have c13:=B0.cell 13 rfl;go_wp2_with fail;go_meet
     refine⟨?_,B0,bw⟩;rw[EB.out];simp[hn,hm,q]
    .have d:(s78==0)=false:=by simp[q]
     go_wp2_with fail;refine mr (N2.out _) fun w1 hb=>?_;replace B0:=B0.kept hb;replace bw:=bg bw hb;clear hb c5 c6 c7 c8 c9 c10 c11 c12 c13;have c5:=B0.cell 5 rfl;have c6:=B0.cell 6 rfl
     have c7:=B0.cell 7 rfl;have c8:=B0.cell 8 rfl;have c9:=B0.cell 9 rfl;have c10:=B0.cell 10 rfl;have c11:=B0.cell 11 rfl;have c12:=B0.cell 12 rfl;have c13:=B0.cell 13 rfl;go_wp2_with fail
     refine mr (N3.out _) fun w2 hb=>?_;replace B0:=B0.kept hb;replace bw:=bg bw hb;clear hb c5 c6 c7 c8 c9 c10 c11 c12 c13;have c5:=B0.cell 5 rfl;have c6:=B0.cell 6 rfl
     have c7:=B0.cell 7 rfl;have c8:=B0.cell 8 rfl;have c9:=B0.cell 9 rfl;have c10:=B0.cell 10 rfl;have c11:=B0.cell 11 rfl;have c12:=B0.cell 12 rfl;have c13:=B0.cell 13 rfl;go_wp2_with fail;go_meet
     refine⟨?_,B0,bw⟩;rw[EB.out];simp[hn,hm,q]
 case rest=>
 obtain⟨rfl,B1,bw1⟩:=hcut;clear N2 N3 EB B0 bw wS8 hsum8;have B0:=B1;have bw:=bw1;clear B1 bw1;go_upto_region 3 with fail
 go_cut [5] (fun s5 wx=>s5=.bool C/\aa wx w.heap.size [.int .i64 K,.int .i64 N,.slice ao xs.length cap,.slice so S.length sc,.slice tO T.length tc,.int .i64 N8,.int .i64 k8,.int .i64 V8,.int .i64 M8,.slice a8 x8.length e8,.int .i64 L8,.slice q8 y8.length d8,.slice s8 S8.length f8,.slice t8 T8.length g8,.int .i64 N9,.int .i64 M9,.int .i64 k9,.int .i64 V9,.int .i64 L9,.slice a9 x9.length e9,.int .i64 H9,.slice q9 y9.length d9] 63/\Below w.heap.size w wx)
 case first=>
  have c14:=B0.cell 14 rfl;have c15:=B0.cell 15 rfl;have c16:=B0.cell 16 rfl;have c17:=B0.cell 17 rfl;have c18:=B0.cell 18 rfl;have c19:=B0.cell 19 rfl;have c20:=B0.cell 20 rfl;have c21:=B0.cell 21 rfl
  by_cases q:N9=0;rotate_left
  .have d:(N9==0)=false:=by simp[q]
   go_wp2_with fail;go_meet;refine⟨?_,B0,bw⟩;rw[EC.out];simp[q]
  subst q;by_cases q:M9=0;rotate_left
  .have d:(M9==0)=false:=by simp[q]
   go_wp2_with fail;go_meet;refine⟨?_,B0,bw⟩;rw[EC.out];simp[q]
  subst q;cases hn:iC k9 V9 L9 x9.length with
  | false=>
   rw[hn]at N4;go_wp2_with fail;refine mr (N4.out _) fun w1 hb=>?_;replace B0:=B0.kept hb;replace bw:=bg bw hb;clear hb c14 c15 c16 c17 c18 c19 c20 c21;have c14:=B0.cell 14 rfl
   have c15:=B0.cell 15 rfl;have c16:=B0.cell 16 rfl;have c17:=B0.cell 17 rfl;have c18:=B0.cell 18 rfl;have c19:=B0.cell 19 rfl;have c20:=B0.cell 20 rfl;have c21:=B0.cell 21 rfl;go_wp2_with fail;go_meet
   refine⟨?_,B0,bw⟩;rw[EC.out];simp[hn]
  | true=>
   rw[hn]at N4;go_wp2_with fail;refine mr (N4.out _) fun w1 hb=>?_;replace B0:=B0.kept hb;replace bw:=bg bw hb;clear hb c14 c15 c16 c17 c18 c19 c20 c21;have c14:=B0.cell 14 rfl
   have c15:=B0.cell 15 rfl;have c16:=B0.cell 16 rfl;have c17:=B0.cell 17 rfl;have c18:=B0.cell 18 rfl;have c19:=B0.cell 19 rfl;have c20:=B0.cell 20 rfl;have c21:=B0.cell 21 rfl;go_wp2_with fail
   refine mr (N5.out _) fun w2 hb=>?_;replace B0:=B0.kept hb;replace bw:=bg bw hb;clear hb c14 c15 c16 c17 c18 c19 c20 c21;have c14:=B0.cell 14 rfl;have c15:=B0.cell 15 rfl
   have c16:=B0.cell 16 rfl;have c17:=B0.cell 17 rfl;have c18:=B0.cell 18 rfl;have c19:=B0.cell 19 rfl;have c20:=B0.cell 20 rfl;have c21:=B0.cell 21 rfl;generalize norw [(H9,y9.length)]=R at *;go_wp2_with fail
   go_meet;refine⟨?_,B0,bw⟩;rw[EC.out];simp[hn]
 case rest=>
 obtain⟨rfl,B1,bw1⟩:=hcut;clear N4 N5 EC B0 bw;have c0:=B1.cell 0 rfl;by_cases q1:K=1
 .subst q1;cases A<;>cases B<;>cases C<;>(go_wp2;go_ret;rw[hZ2.out];exact⟨rfl,bw1⟩)
 by_cases q2:K=2
 .subst q2;cases A<;>cases B<;>cases C<;>(go_wp2;go_ret;rw[hZ2.out];exact⟨rfl,bw1⟩)
 by_cases q3:K=3
 .subst q3;cases A<;>cases B<;>cases C<;>(go_wp2;go_ret;rw[hZ2.out];exact⟨rfl,bw1⟩)
 have d1:(K==1)=false:=by simp[q1]
 have d2:(K==2)=false:=by simp[q2]
 have d3:(K==3)=false:=by simp[q3]
 rw[decide_eq_false q1,decide_eq_false q2,decide_eq_false q3]at hZ2;cases A<;>cases B<;>cases C<;>(go_wp2;go_ret;rw[hZ2.out];exact⟨rfl,bw1⟩)
theorem rB(cs:List Value)(a:RA)(w:World)(h:KI w cs a):
  Calls prog 117 #[.agg cs.toArray] w fun e w'=>∃bo bc,e=.returned (.tuple #[.agg #[.int .i64 (kBN a),.slice bo (aR a).length bc],.bool (aQ a)])/\Wd w' bo (aR a)/\(aR a).length<=bc/\Below w.heap.size w w':=by
 have ZE0:=fun(w0:World) (hb:Below w.heap.size w w0)=>ww cs a w0 (h.keep hb);have HL:=Hid.mk8 h.arg.len;have sm:=h.sm;have gv:=h.gv;replace h:=h.arg;obtain⟨cp,cr,cf,rfl,hK,h1,h2,h3⟩:=h
 have l4:=Hid.mk8 h1.four;have l9:=Hid.mk8 h2.nine;have LP:=Hid.mk8 h1.len;have LR:=Hid.mk8 h2.len;have LF:=Hid.mk8 h3.len;obtain⟨K,p,r,f⟩:=a;dsimp only at *;have k7:cH w cp p:=⟨h1,sm.p1,sm.p2,sm.p3⟩
 have k8:br w cr r:=⟨h2,sm.r1,sm.r2,sm.r3,sm.r4,gv⟩;have k9:bT w cf f:=⟨h3,sm.f0,sm.f1,sm.f2⟩
 have ZE:Hid (Qz w 167 #[.agg (Value.int .i64 K::(cp++(cr++cf))).toArray] (.bool (cF ⟨K,p,r,f⟩))):=ZE0
 clear ZE0 h1 h2 h3 sm gv;have bw:Below w.heap.size w ((w.alloc (.cells (Value.int .i64 K::(cp++(cr++cf))).toArray 63)).alloc (.cells #[.int .i64 0,.slice none 0 0] 53)):=(below_alloc w _).alloc (by simp) _
 have B0:aa ((w.alloc (.cells (Value.int .i64 K::(cp++(cr++cf))).toArray 63)).alloc (.cells #[.int .i64 0,.slice none 0 0] 53)) w.heap.size (Value.int .i64 K::(cp++(cr++cf))) 63:=(aa.new w _ _).alloc _
 have B2:aa ((w.alloc (.cells (Value.int .i64 K::(cp++(cr++cf))).toArray 63)).alloc (.cells #[.int .i64 0,.slice none 0 0] 53)) (w.heap.size+1) [.int .i64 0,.slice none 0 0] 53:=aa.new2 w _ _ _
 cases hz:cF ⟨K,p,r,f⟩with
 | false=>
  have o:kOn ⟨K,p,r,f⟩=0:=by unfold kOn;rw[hz];rfl
  obtain⟨e1,e2,e3,e4⟩:=gc (a:=⟨K,p,r,f⟩) (by omega) (by omega) (by omega);rw[e1,e2,e3];rw[hz]at ZE;clear e1 e2 e3 e4 o hz k7 k8 k9;go_enter func117,ntmps117
  go_wp2_with (refine ca w.heap.size _ (by rfl) rfl B0 underlying63 HL.out ?_);refine mr (ZE.out _ bw) fun w1 hb=>?_;replace B0:=B0.kept hb;replace B2:=B2.kept hb
  replace bw:=bg bw hb;clear hb;obtain⟨c0,p1,p2,p3⟩:=parts l4.out l9.out B0
  go_wp2_with (refine aJ (w.heap.size+1) _ [.int .i64 0,.slice none 0 0] rfl rfl B2 rfl gV (by simp[Value.oneCell']) ?_);intro w3 B3 O3
  have HZ:Hid (aa w3 (w.heap.size+1) [.int .i64 0,.slice none 0 0] 53/\Below w.heap.size w w3):=⟨B3,bw.trans (O3.below (Nat.le_succ _))⟩;clear B3 O3 B2 B0 c0 p1 p2 p3;go_wp2
  (try simp only[Exit.inBlock,Exit.then]);exact bodyPost_ret (a_ rfl (w.heap.size+1) _ rfl HZ.out.1 underlying53 gV) rfl ⟨none,0,rfl,cK _ _,Nat.le_refl _,HZ.out.2⟩
 | true=>
  have o:kOn ⟨K,p,r,f⟩=K:=by unfold kOn;rw[hz];rfl
  rw[hz]at ZE;clear hz;by_cases q7:K=1
  .subst q7;obtain⟨e1,e2,e3,e4⟩:=im o;rw[e1,e2,e3]
   have C:Hid (∀w0,Below w.heap.size w w0->Calls prog 168 #[.agg cp.toArray] w0 fun e w'=>∃bo bc,e=.returned (.tuple #[.agg #[.int .i64 (kBN7 p),.slice bo (kBX7 p).length bc],.bool (kOk7 p)])/\Wd w' bo (kBX7 p)/\(kBX7 p).length<=bc/\Below w0.heap.size w0 w'):=fun w0 g=>AZ cp p w0 (k7.keep g)
   clear e1 e2 e3 e4 k7 k8 k9 o;generalize kBN7 p=N at *;generalize kBX7 p=X at *;generalize kOk7 p=ok at *;go_enter func117,ntmps117
   go_wp2_with (refine ca w.heap.size _ (by rfl) rfl B0 underlying63 HL.out ?_);refine mr (ZE.out _ bw) fun w1 hb=>?_;replace B0:=B0.kept hb;replace B2:=B2.kept hb
   replace bw:=bg bw hb;clear hb;obtain⟨c0,p1,p2,p3⟩:=parts l4.out l9.out B0;go_wp2_with (refine aY w.heap.size 1 cp (by rfl) rfl p1 underlying55 LP.out ?_);refine(C.out _ bw).mono ?_
   rintro e w2 ⟨bo,bc,rfl,hx,hbc,hb⟩;replace bw:=bg bw hb;replace B2:=B2.kept hb;clear hb C ZE B0 c0 p1 p2 p3;have hne:=hx.apart B2 (by intro v hv n;simp at hv;rcases hv with rfl | rfl<;>simp)
   go_wp2_with (refine aJ (w.heap.size+1) _ [.int .i64 N,.slice bo X.length bc] rfl rfl B2 rfl gV (by simp[Value.oneCell']) ?_);intro w3 B3 O3
   have HZ:Hid (aa w3 (w.heap.size+1) [.int .i64 N,.slice bo X.length bc] 53/\Wd w3 bo X/\Below w.heap.size w w3):=⟨B3,O3.wd hx hne,bw.trans (O3.below (Nat.le_succ _))⟩;clear B3 O3 B2 hx hne;go_wp2
   (try simp only[Exit.inBlock,Exit.then]);exact bodyPost_ret (a_ rfl (w.heap.size+1) _ rfl HZ.out.1 underlying53 gV) rfl ⟨bo,bc,rfl,HZ.out.2.1,hbc,HZ.out.2.2⟩
  by_cases q8:K=2
  .subst q8;obtain⟨e1,e2,e3,e4⟩:=il o;rw[e1,e2,e3]
   have C:Hid (∀w0,Below w.heap.size w w0->Calls prog 169 #[.agg cr.toArray] w0 fun e w'=>∃bo bc,e=.returned (.tuple #[.agg #[.int .i64 (kBN8 r),.slice bo (kBX8 r).length bc],.bool (kOk8 r)])/\Wd w' bo (kBX8 r)/\(kBX8 r).length<=bc/\Below w0.heap.size w0 w'):=fun w0 g=>sF cr r w0 (k8.keep g)
   clear e1 e2 e3 e4 k7 k8 k9 o;generalize kBN8 r=N at *;generalize kBX8 r=X at *;generalize kOk8 r=ok at *;go_enter func117,ntmps117
   go_wp2_with (refine ca w.heap.size _ (by rfl) rfl B0 underlying63 HL.out ?_);refine mr (ZE.out _ bw) fun w1 hb=>?_;replace B0:=B0.kept hb;replace B2:=B2.kept hb
   replace bw:=bg bw hb;clear hb;obtain⟨c0,p1,p2,p3⟩:=parts l4.out l9.out B0;go_wp2_with (refine aY w.heap.size 5 cr (by rfl) rfl p2 underlying59 LR.out ?_);refine(C.out _ bw).mono ?_
   rintro e w2 ⟨bo,bc,rfl,hx,hbc,hb⟩;replace bw:=bg bw hb;replace B2:=B2.kept hb;clear hb C ZE B0 c0 p1 p2 p3;have hne:=hx.apart B2 (by intro v hv n;simp at hv;rcases hv with rfl | rfl<;>simp)
   go_wp2_with (refine aJ (w.heap.size+1) _ [.int .i64 N,.slice bo X.length bc] rfl rfl B2 rfl gV (by simp[Value.oneCell']) ?_);intro w3 B3 O3
   have HZ:Hid (aa w3 (w.heap.size+1) [.int .i64 N,.slice bo X.length bc] 53/\Wd w3 bo X/\Below w.heap.size w w3):=⟨B3,O3.wd hx hne,bw.trans (O3.below (Nat.le_succ _))⟩;clear B3 O3 B2 hx hne;go_wp2
   (try simp only[Exit.inBlock,Exit.then]);exact bodyPost_ret (a_ rfl (w.heap.size+1) _ rfl HZ.out.1 underlying53 gV) rfl ⟨bo,bc,rfl,HZ.out.2.1,hbc,HZ.out.2.2⟩
  by_cases q9:K=3
  .subst q9;obtain⟨e1,e2,e3,e4⟩:=fA o;rw[e1,e2,e3]
   have C:Hid (∀w0,Below w.heap.size w w0->Calls prog 170 #[.agg cf.toArray] w0 fun e w'=>∃bo bc,e=.returned (.tuple #[.agg #[.int .i64 (kBN9 f),.slice bo (kBX9 f).length bc],.bool (kOk9 f)])/\Wd w' bo (kBX9 f)/\(kBX9 f).length<=bc/\Below w0.heap.size w0 w'):=fun w0 g=>va cf f w0 (k9.keep g)
   clear e1 e2 e3 e4 k7 k8 k9 o;generalize kBN9 f=N at *;generalize kBX9 f=X at *;generalize kOk9 f=ok at *;go_enter func117,ntmps117
   go_wp2_with (refine ca w.heap.size _ (by rfl) rfl B0 underlying63 HL.out ?_);refine mr (ZE.out _ bw) fun w1 hb=>?_;replace B0:=B0.kept hb;replace B2:=B2.kept hb
   replace bw:=bg bw hb;clear hb;obtain⟨c0,p1,p2,p3⟩:=parts l4.out l9.out B0;go_wp2_with (refine aY w.heap.size 14 cf (by rfl) rfl p3 underlying61 LF.out ?_);refine(C.out _ bw).mono ?_
   rintro e w2 ⟨bo,bc,rfl,hx,hbc,hb⟩;replace bw:=bg bw hb;replace B2:=B2.kept hb;clear hb C ZE B0 c0 p1 p2 p3;have hne:=hx.apart B2 (by intro v hv n;simp at hv;rcases hv with rfl | rfl<;>simp)
   go_wp2_with (refine aJ (w.heap.size+1) _ [.int .i64 N,.slice bo X.length bc] rfl rfl B2 rfl gV (by simp[Value.oneCell']) ?_);intro w3 B3 O3
   have HZ:Hid (aa w3 (w.heap.size+1) [.int .i64 N,.slice bo X.length bc] 53/\Wd w3 bo X/\Below w.heap.size w w3):=⟨B3,O3.wd hx hne,bw.trans (O3.below (Nat.le_succ _))⟩;clear B3 O3 B2 hx hne;go_wp2
   (try simp only[Exit.inBlock,Exit.then]);exact bodyPost_ret (a_ rfl (w.heap.size+1) _ rfl HZ.out.1 underlying53 gV) rfl ⟨bo,bc,rfl,HZ.out.2.1,hbc,HZ.out.2.2⟩
  obtain⟨e1,e2,e3,e4⟩:=gc (a:=⟨K,p,r,f⟩) (by rw[o];exact q7) (by rw[o];exact q8) (by rw[o];exact q9);rw[e1,e2,e3];have d7:(K==1)=false:=by simp[q7]
  have d8:(K==2)=false:=by simp[q8]
  have d9:(K==3)=false:=by simp[q9]
  clear e1 e2 e3 e4 o k7 k8 k9;go_enter func117,ntmps117;go_wp2_with (refine ca w.heap.size _ (by rfl) rfl B0 underlying63 HL.out ?_);refine mr (ZE.out _ bw) fun w1 hb=>?_
  replace B0:=B0.kept hb;replace B2:=B2.kept hb;replace bw:=bg bw hb;clear hb;obtain⟨c0,p1,p2,p3⟩:=parts l4.out l9.out B0
  go_wp2_with (refine aJ (w.heap.size+1) _ [.int .i64 0,.slice none 0 0] rfl rfl B2 rfl gV (by simp[Value.oneCell']) ?_);intro w3 B3 O3
  have HZ:Hid (aa w3 (w.heap.size+1) [.int .i64 0,.slice none 0 0] 53/\Below w.heap.size w w3):=⟨B3,bw.trans (O3.below (Nat.le_succ _))⟩;clear B3 O3 B2 B0 c0 p1 p2 p3;go_wp2
  (try simp only[Exit.inBlock,Exit.then]);exact bodyPost_ret (a_ rfl (w.heap.size+1) _ rfl HZ.out.1 underlying53 gV) rfl ⟨none,0,rfl,cK _ _,Nat.le_refl _,HZ.out.2⟩
theorem oL:(prog.info? 53).map (·.size)=some 2:=by kernel_rfl
theorem xg(cs:List Value)(IL:Hid ((prog.info? 63).map (·.size)=some cs.length))(ok:Bool)(N:Int)(X:List Nat)(w:World)(hf:aA X)(hck:ok=true->am N X=true)(C1:Hid (∀w0,Below w.heap.size w w0->Calls prog 117 #[.agg cs.toArray] w0 fun e w'=>∃bo bc,e=.returned (.tuple #[.agg #[.int .i64 N,.slice bo X.length bc],.bool ok])/\Wd w' bo X/\X.length<=bc/\Below w0.heap.size w0 w')):
  Qq 70 #[.agg cs.toArray] w (.bool ok):=by
 have bW:Below w.heap.size w (w.alloc (.cells cs.toArray 63)):=below_alloc w _;have BX:=aa.new w cs 63;go_enter func70,ntmps70
 go_wp2_with (refine ca w.heap.size cs (by rfl) rfl BX underlying63 IL.out ?_);refine(C1.out _ bW).mono ?_;rintro e w1 ⟨bo,bc,rfl,hx,hbc,hb⟩;have bw1:=bg bW hb;clear hb C1 BX
 have bA:=below_alloc w1 (.cells #[.int .i64 N,.slice bo X.length bc] 53);have bw2:=bg bw1 bA;go_wp2;go_ret;exact⟨rfl,bw2⟩
theorem xi(cs:List Value)(IL:Hid ((prog.info? 63).map (·.size)=some cs.length))(ok:Bool)(N:Int)(X:List Nat)(w:World)(hf:aA X)(hck:ok=true->am N X=true)(C1:Hid (∀w0,Below w.heap.size w w0->Calls prog 117 #[.agg cs.toArray] w0 fun e w'=>∃bo bc,e=.returned (.tuple #[.agg #[.int .i64 N,.slice bo X.length bc],.bool ok])/\Wd w' bo X/\X.length<=bc/\Below w0.heap.size w0 w')):
  Calls prog 121 #[.agg cs.toArray] w fun e w'=>∃bo bc,e=.returned (.agg #[.int .i64 N,.slice bo X.length bc])/\Wd w' bo X/\X.length<=bc/\Below w.heap.size w w':=by
 have bW:Below w.heap.size w ((w.alloc (.cells cs.toArray 63)).alloc (.cells #[.int .i64 0,.slice none 0 0] 53)):=(below_alloc w _).alloc (by simp) _
 have BX:aa ((w.alloc (.cells cs.toArray 63)).alloc (.cells #[.int .i64 0,.slice none 0 0] 53)) w.heap.size cs 63:=(aa.new w cs 63).alloc _
 have B2:aa ((w.alloc (.cells cs.toArray 63)).alloc (.cells #[.int .i64 0,.slice none 0 0] 53)) (w.heap.size+1) [.int .i64 0,.slice none 0 0] 53:=aa.new2 w _ _ _;go_enter func121,ntmps121
 go_wp2_with (refine ca w.heap.size cs (by rfl) rfl BX underlying63 IL.out ?_);refine(C1.out _ bW).mono ?_;rintro e w1 ⟨bo,bc,rfl,hx,hbc,hb⟩;have bw1:=bg bW hb
 have z2:w.heap.size+1<w1.heap.size:=Nat.lt_of_lt_of_le B2.lt hb.size;replace B2:=B2.kept hb;have bA:=below_alloc w1 (.cells #[.int .i64 N,.slice bo X.length bc] 53);replace B2:=B2.kept bA;have hx2:=hx.keep bA
 have bw2:=bg bw1 bA;have D1:=aa.new w1 [.int .i64 N,.slice bo X.length bc] 53;have hne:=hx2.apart B2 (by intro v hv n;simp at hv;rcases hv with rfl | rfl<;>simp)
 go_wp2_with (first | refine fe w1.heap.size _ rfl D1 underlying53 oL ?_ | refine aJ (w.heap.size+1) _ _ rfl rfl B2 rfl oL (by simp[Value.oneCell']) ?_);intro w3 B3 O3
 have HZ:Hid (aa w3 (w.heap.size+1) [.int .i64 N,.slice bo X.length bc] 53/\Wd w3 bo X/\Below w.heap.size w w3):=⟨B3,O3.wd hx2 hne,bw2.trans (O3.below (Nat.le_succ _))⟩;clear B3 O3 hx hx2 hb B2 D1 BX;go_wp2
 (try simp only[Exit.inBlock,Exit.then]);exact bodyPost_ret (iQ rfl (w.heap.size+1) _ rfl HZ.out.1 underlying53 oL) rfl ⟨bo,bc,rfl,HZ.out.2.1,hbc,HZ.out.2.2⟩
end Go.Proofs.YtleegaihbgbcjabGreatDoor
