import Derived.Test.YtleegaihbgbcjabGreatDoorT23
set_option linter.unusedVariables false
set_option linter.unusedSimpArgs false
set_option maxRecDepth 100000
set_option maxHeartbeats 16000000
open Go.Proofs.Tryz
namespace Go.Proofs.YtleegaihbgbcjabGreatDoor
open Go.RowKit Num Bit
theorem EV:(madeCells zv.toArray (8*22)).toList=bQ 8:=by kernel_rfl
theorem i_{w:World}{base g:Nat}{E:TypeId}(h:w.ownsRow base E 22 (.slice (some ⟨g,0,none⟩) 8 8) 8 (madeCells zv.toArray (8*22)).toList):aa w g (bQ 8) E:=by
 obtain⟨_,h | ⟨g',cap,cur,e,_,hh,_,_,hs,ht⟩⟩:=h
 .simp at h
 .simp only[Value.slice.injEq,Option.some.injEq,Addr.mk.injEq]at e;obtain⟨⟨rfl,_,_⟩,_,rfl⟩:=e;unfold aa;rw[hh,<-EV,<-ht]
  have e3:cur.toList.take (8*22)=cur.toList:=List.take_of_length_le (by simp;omega);rw[e3]
theorem y_{ops:Array Oper}{rest:List Oper}{d:Option Tmp}{ty T TT:TypeId}{ps:String}{af:Array Edge}{a:Act}{w:World}{Q:Exit->Act->World->Prop}{x y:Operand}
  (g o:Nat) (pre old post cs:List Value) (ho:pre.length=o) (hx:a.eval x=.pointer (some ⟨g,o,none⟩)) (hy:a.eval y=.agg cs.toArray) (hc:aa w g (pre++(old++post)) TT) (lo:old.length=cs.length) (hi:(prog.info? T).map (·.size)=some cs.length) (h1:cs.toArray.all (·.oneCell')=true)
  (h:∀w1,aa w1 g (pre++(cs++post)) TT->aB g w w1->wpList prog ops Q rest (a.put d undef) w1):
  wpList prog ops Q (⟨d,.store T x y,ty,ps,af,none⟩::rest) a w:=by
 subst ho;exact gF g pre old post cs hx hy hc lo hi h1 h
structure dP (w:World) (g B:Nat) (R:Nat->RA) (css:List (List Value)):Prop where
 len:css.length<=8
 cel:aa w g (css.flatten++bQ (8-css.length)) 63
 row:∀l c,css[l]?=some c->KI w c (R l)/\fm B c
theorem dP.keep{w w':World}{g B:Nat}{R:Nat->RA}{css:List (List Value)}(h:dP w g B R css)(hb:Below w.heap.size w w'):dP w' g B R css:=⟨h.len,h.cel.kept hb,fun l c e=>⟨(h.row l c e).1.keep hb,(h.row l c e).2⟩⟩
theorem dP.l22{w:World}{g B:Nat}{R:Nat->RA}{css:List (List Value)}(h:dP w g B R css):∀c∈css,c.length=22:=fun c hc=>by
 obtain⟨l,hl⟩:=List.getElem?_of_mem hc;exact(h.row l c hl).1.arg.nine.symm
theorem dP.nou{w:World}{g B:Nat}{R:Nat->RA}{css:List (List Value)}(h:dP w g B R css):bT (css.flatten++bQ (8-css.length)):=by
 refine bT.app (bT.flat fun c hc=>?_) (bT.flat fun c hc=>?_)
 .obtain⟨l,hl⟩:=List.getElem?_of_mem hc;exact(h.row l c hl).1.nou
 .rw[(List.mem_replicate.1 hc).2];exact uF
theorem dP.lv{w:World}{g B:Nat}{R:Nat->RA}{css:List (List Value)}(h:dP w g B R css)(av:List RA)(h8:css.length=8)(ha:av.length=8)(hR:∀l,l<8->av.getD l ra0=R l):Lv w (some ⟨g,0,none⟩) av:=fun _=>by
 refine⟨g,0,rfl,h.cel.lt,fun l hl=>?_⟩;have hl:l<8:=by omega
 obtain⟨c,hc⟩:∃c,css[l]?=some c:=⟨_,List.getElem?_eq_getElem (by omega)⟩;obtain⟨p,q,e1,e2⟩:=wQ css h.l22 l c hc (bQ (8-css.length));refine⟨c,?_,?_⟩
 .have:=h.cel;rw[e1]at this;have:=aa.part p c q this;rwa [e2,<-Nat.zero_add (l*22)]at this
 .rw[hR l hl];exact(h.row l c hc).1
theorem dP.only{w w2:World}{g g0 B:Nat}{R:Nat->RA}{css:List (List Value)}{gs:List Value}{T:TypeId}(h:dP w g B R css)(hg:g0≠g)(hB:g0<B)(hc:aa w g0 gs T)(hn:bT gs)(hO:aB g0 w w2)(G2:GV w2):dP w2 g B R css:=
 ⟨h.len,hO.cel h.cel (fun e=>hg e.symm),fun l c e=>⟨(h.row l c e).1.only2 ((h.row l c e).2.ne hB) hc hn hO G2,(h.row l c e).2⟩⟩
theorem dP.push{w w2:World}{g B:Nat}{R:Nat->RA}{css:List (List Value)}{c:List Value}(h:dP w g B R css)(hB:g<B)(hl:css.length<8)(hk:KI w c (R css.length))(hn:fm B c)(h2:aa w2 g (css.flatten++(c++bQ (7-css.length))) 63)(hO:aB g w w2)(G2:GV w2):dP w2 g B R (css++[c]):=by
 refine⟨by simp;omega,?_,fun l d e=>?_⟩
 .have e:(css++[c]).flatten++bQ (8-(css++[c]).length)=css.flatten++(c++bQ (7-css.length)):=by
   rw[List.flatten_append,List.length_append];simp
  rw[e];exact h2
 .by_cases q:l<css.length
  .rw[List.getElem?_append_left q]at e;obtain⟨e1,e2⟩:=h.row l d e;exact⟨e1.only2 (e2.ne hB) h.cel h.nou hO G2,e2⟩
  .have q2:l=css.length:=by
    have:=(List.getElem?_eq_some_iff.1 e).1;simp at this;omega
   subst q2;rw[List.getElem?_append_right (Nat.le_refl _),Nat.sub_self]at e;simp at e;subst e;exact⟨hk.only2 (hn.ne hB) h.cel h.nou hO G2,hn⟩
theorem GV.only{w w':World}{g:Nat}(h:GV w)(hO:aB g w w')(hg:2<=g):GV w':=by
 obtain⟨⟨T1,h1⟩,⟨T2,h2⟩⟩:=h;exact⟨⟨T1,hO.cel h1 (by omega)⟩,⟨T2,hO.cel h2 (by omega)⟩⟩
theorem qv(k:IntKind)(hk:k≠.u64)(l:List Nat):bT (vK k l):=fun v hv n e=>by
 subst e;unfold vK at hv;obtain⟨_,_,e⟩:=List.mem_map.1 hv;injection e with e1 e2
 exact hk e1
def zq(t:List Nat)(q:Nat):List Nat:=(List.range 8).map fun l=>if l<q then Mx.zs t l else 0
theorem sC(t:List Nat):zq t 0=List.replicate 8 0:=by
 unfold zq;rw[show(fun l=>if l<0 then Mx.zs t l else 0)=fun _=>0 by funext l;rw[if_neg (Nat.not_lt_zero _)],List.map_const'];simp
theorem xX(t:List Nat):zq t 8=mZ t:=by
 unfold zq mZ;refine List.map_congr_left fun l hl=>?_;rw[if_pos (List.mem_range.1 hl)]
theorem oH(t:List Nat)(q:Nat):(zq t q).length=8:=by simp[zq]
theorem wL(t:List Nat)(q l:Nat)(h:l<8):(zq t q)[l]?=some (if l<q then Mx.zs t l else 0):=by
 unfold zq;rw[List.getElem?_map,List.getElem?_range h];rfl
theorem xW(t:List Nat)(q:Nat)(h:q<8):(zq t q).set q (Mx.zs t q)=zq t (q+1):=by
 refine List.ext_getElem? fun l=>?_;by_cases hl:l<8
 .rw[List.getElem?_set,oH,wL _ _ _ hl,wL _ _ _ hl];by_cases e:q=l
  .subst e;rw[if_pos rfl,if_pos h,if_pos (by omega)]
  .rw[if_neg e];by_cases c:l<q
   .rw[if_pos c,if_pos (by omega)]
   .rw[if_neg c,if_neg (by omega)]
 .rw[List.getElem?_eq_none (by rw[List.length_set,oH];omega),List.getElem?_eq_none (by rw[oH];omega)]
theorem nI(k:IntKind)(l:List Nat)(i v:Nat):(vK k l).set i (.int k (v:Nat))=vK k (l.set i v):=by simp[vK,List.map_set]
theorem gE(k:IntKind)(l:List Nat)(i:Nat)(h:i<l.length):(vK k l)[i]?=some (.int k (gt l i:Nat)):=by
 unfold vK gt;rw[List.getElem?_map,List.getD_eq_getElem?_getD,List.getElem?_eq_getElem h];rfl
theorem uK{w:World}{g:Nat}{l:List Nat}(h:aa w g (vK .i64 l) 3):Nd w (some ⟨g,0,none⟩) (mI l):=fun _=>⟨g,0,rfl,h.lt,fun i hi=>by
 rw[dt]at hi;rw[Nat.zero_add,iN l i hi]
 exact h.cell i (gE _ l i hi)⟩
theorem fi{w:World}{base g n:Nat}{k:IntKind}{E:TypeId}(h:w.ownsRow base E 1 (.slice (some ⟨g,0,none⟩) n n) n (madeCells #[.int k 0] n).toList):aa w g (vK k (List.replicate n 0)) E:=by
 obtain⟨_,h | ⟨g',cap,cur,e,_,hh,_,_,hs,ht⟩⟩:=h
 .simp at h
 .simp only[Value.slice.injEq,Option.some.injEq,Addr.mk.injEq]at e;obtain⟨⟨rfl,_,_⟩,_,rfl⟩:=e;unfold aa;rw[hh]
  have e2:(madeCells #[.int k 0] n).toList=vK k (List.replicate n 0):=by
   rw[toList_madeCells_one (.int k 0) n,vK,List.map_replicate];rfl
  rw[e2]at ht;have e3:cur.toList.take (n*1)=cur.toList:=List.take_of_length_le (by simp;omega);rw[e3]at ht;rw[<-ht]
theorem JP{w:World}{base n c:Nat}{ao:Option Addr}{l:List Nat}(h:w.ownsRow base 5 1 (.slice ao n c) n (vK .u8 l))(hn:n=l.length):Bd w ao l:=fun h0=>by
 have h':=h;obtain⟨_,⟨e,h1⟩ | ⟨g,cap,cur,e,e2,hh,_⟩⟩:=h
 .injection e with e1 e2 e3
  omega
 .simp only[Value.slice.injEq]at e;obtain⟨rfl,_,rfl⟩:=e;refine⟨g,0,rfl,(Array.getElem?_eq_some_iff.1 hh).1,fun i hi=>?_⟩;rw[Nat.zero_add];exact(Ag.owns_cells h').2 i _ (gE _ l i hi)
theorem xN{w w':World}{g:Nat}{ao:Option Addr}{l:List Nat}(h:Bd w ao l)(ha:∀a,ao=some a->0<l.length->a.block≠g)(hO:aB g w w'):Bd w' ao l:=fun h0=>by
 obtain⟨b,off,e,hb,hc⟩:=h h0;have hg:=ha _ e h0;exact⟨b,off,e,by rw[hO.size];exact hb,fun i hi=>(hO.cell (p:=⟨b,off+i,none⟩) hg).trans (hc i hi)⟩
theorem jL:(prog.info? 3).map (fun i=>(i.zero,i.size,i.bytes))=some (some (.int .i64 0),1,8):=by kernel_rfl
theorem c_{ops:Array Oper}{d:Option Tmp}{ty t:TypeId}{ps:String}{af:Array Edge}{a:Act}{w:World}{K:Act->World->Prop}{Q:Exit->Act->World->Prop}{E:Prop}{l c:Operand}
  (base:Nat) (e:TypeId) (i:TypeInfo) (z:Value) (size:Nat) (h1:prog.underlying t=some (.slice e)) (h2:prog.info? e=some i) (h3:i.zero=some z) (h4:i.size=size) (n:Nat) (hl:a.eval l=.int .i64 (n:Int)) (hc:a.eval c=.int .i64 (n:Int)) (b2:i.bytes*n<=281474976710656) (b3:n<=maxLen) (b4:base<=w.heap.size)
  (hK:∀w',w'.ownsRow base e size (.slice (some ⟨w.heap.size,0,none⟩) n n) n (madeCells z.cells (n*size)).toList->w.grownBy w' none->K (a.put d (.slice (some ⟨w.heap.size,0,none⟩) n n)) w'):
  if Region.wanted (⟨d,.makeSlice t l c,ty,ps,af,none⟩:Oper) (yielded ops a.tmps)=true then Oper.wp prog (⟨d,.makeSlice t l c,ty,ps,af,none⟩:Oper) a w K Q else E:=by
 rw[if_pos (by simp[Region.wanted])];obtain⟨w',hrun,r1,r2⟩:=run_make_full (P:=prog) w base t e i z size h1 h2 h3 h4 .i64 .i64 n b2 b3 b4;unfold Oper.wp;simp[execOp,hl,hc,hrun,Result.andThen];exact hK w' r1 r2
def QM(w:World)(k:Int)(n:Nat)(v6:Value)(wx:World):Prop:=∃gL gz gx,v6=.pointer (some ⟨gx,0,none⟩)/\(w.heap.size<gL/\w.heap.size<gz/\w.heap.size<gx/\gL≠gz/\gL≠gx/\gz≠gx)/\aa wx gx [.int .i64 k,.int .i64 (n:Int),.slice (some ⟨gL,0,none⟩) 8 8,.slice (some ⟨gz,0,none⟩) 8 8] 27/\aa wx gL (bQ 8) 63/\aa wx gz (vK .i64 (List.replicate 8 0)) 3/\aa wx w.heap.size [.int .i64 0,.int .i64 0,.slice none 0 0,.slice none 0 0] 27/\Below w.heap.size w wx
theorem fD:(prog.info? 27).map (·.size)=some 4:=by kernel_rfl
theorem EF(k:Int)(ao:Option Addr)(t:List Nat)(cap:Nat)(w:World)(hk:1<=k/\k<=3)(hx:Bd w ao t)(hB:iR t)(hn:t.length<=3000)(G:GV w):
  Calls prog 8 #[.int .i64 k,.slice ao t.length cap] w fun e w'=>∃cs,e=.returned (.tuple #[.agg cs.toArray,.int .i64 0])/\MX w' cs k t/\Below w.heap.size w w':=by
 have hK:aD k:=by unfold aD;omega
 obtain⟨i0,hi,hz0,hz1,hz2⟩:=info_parts jL;obtain⟨iv,hiv,hzv0,hzv1,hzv2⟩:=info_parts oT;have HG:=ag G;have HX:=ag hx;have g2:=G.two;obtain⟨n,hnn⟩:∃n,Hid (n=t.length):=⟨_,rfl⟩
 have hn2:n<=3000:=by rw[hnn.out];exact hn
 have CR:Hid (∀l so sc gl w0,l<8->Bd w0 so (Mx.sy t l)->aa w0 gl [.int .i64 (l:Int)] 3->Calls prog 27 #[.slice so n sc,.func (.func 24) #[] #[.pointer (some ⟨gl,0,none⟩)]] w0 fun e w'=>∃bo dap,e=.returned (.agg #[.int .i64 (n:Nat),.slice bo (aC (Mx.rw_ t l)).length dap])/\Wd w' bo (aC (Mx.rw_ t l))/\(aC (Mx.rw_ t l)).length<=dap/\Below w0.heap.size w0 w'):=fun l so sc gl w0 hl hb hc=>by
  have:=uQ so (Mx.sy t l) sc l gl w0 hb (Mx.byt_sy hB l) (by rw[Mx.length_sy];omega) hl hc;rw[<-Mx.rw_sy,Mx.length_sy,<-hnn.out]at this;exact this
 have CV:Hid (∀l bo dap w0,Below w.heap.size w w0->Wd w0 bo (aC (Mx.rw_ t l))->(aC (Mx.rw_ t l)).length<=dap->Calls prog 26 #[.int .i64 k,.agg #[.int .i64 (n:Nat),.slice bo (aC (Mx.rw_ t l)).length dap]] w0 fun e w'=>∃cs:List Value,e=.returned (.tuple #[.agg cs.toArray,.int .i64 0])/\KI w' cs (kB k (t.length:Int) (aC (Mx.rw_ t l)))/\Below w0.heap.size w0 w'/\fm w0.heap.size cs):=fun l bo dap w0 hb h1 h2=>by
  have:=xC k (n:Int) bo (aC (Mx.rw_ t l)) dap w0 hK (by unfold aD;omega) h1 (cY _ _) h2 ⟨by omega,by unfold aC;rw[cM,Mx.length_rw];omega⟩ (G.keep hb)
  have e:kE k (n:Int) (aC (Mx.rw_ t l))=0:=by rw[hnn.out];exact oN k _ _ hk.1 hk.2 (mj hn l)
  rw[e]at this;rw[<-hnn.out];exact this
 have CP:Hid (∀l so sc gl w0,l<8->Bd w0 so (Mx.sy t l)->aa w0 gl [.int .i64 (l:Int)] 3->Calls prog 28 #[.slice so n sc,.func (.func 24) #[] #[.pointer (some ⟨gl,0,none⟩)]] w0 fun e w'=>∃ao cap,e=.returned (.tuple #[.slice ao n cap,.int .i64 (Mx.zs t l:Nat)])/\Bd w' ao (Mx.sy t (l+1))/\(∀a,ao=some a->w0.heap.size<=a.block)/\Below w0.heap.size w0 w'):=fun l so sc gl w0 hl hb hc=>by
  have:=El so (Mx.sy t l) sc gl (Mx.tb l) w0 hb (by rw[Mx.length_sy];omega) (fun x w1 hm hb1=>by
   obtain⟨i,hi1,rfl⟩:=List.getElem_of_mem hm
   have hx8:(Mx.sy t l)[i]<256:=by
    have:=Mx.byt_sy hB l i;unfold gt at this;rw[List.getD_eq_getElem?_getD,List.getElem?_eq_getElem hi1]at this;exact this
   refine(uT _ l gl hx8 hl w1 (hc.kept hb1)).mono ?_;rintro e w2 ⟨rfl,rfl⟩
   exact⟨rfl,Below.refl _ _⟩)
  rw[Mx.length_sy,<-hnn.out]at this;refine this.mono ?_;rintro e w' ⟨ao,m,cap,rfl,hm,how,hbe⟩;have em:m=n:=by rw[hm,(Mx.perm_pt _ _).length_eq,Mx.length_sy,hnn.out]
  subst em
  have ez:(fl (Mx.tb l) false (Mx.sy t l) m).length=Mx.zs t l:=by
   rw[Mx.zs_sy];unfold fl;rw[List.take_of_length_le (by rw[Mx.length_sy,<-hnn.out];exact Nat.le_refl _)]
  rw[<-Mx.sy_succ]at how hm;rw[ez];exact⟨ao,cap,rfl,JP how hm,Dm how,hbe⟩
 rw[<-hnn.out];have n1:¬(n:Int)>8192:=by omega
 obtain⟨W,hW⟩:∃W,W=w.alloc (.cells #[.int .i64 0,.int .i64 0,.slice none 0 0,.slice none 0 0] 27):=⟨_,rfl⟩;have bW:=ag (show Below w.heap.size w W by rw[hW];exact below_alloc w _)
 have B4:=ag (show aa W w.heap.size [.int .i64 0,.int .i64 0,.slice none 0 0,.slice none 0 0] 27 by rw[hW];exact aa.new w _ _);clear hx G;go_enter func8,ntmps8;go_upto_region 3 with fail
 rw[<-hW];go_cut [6] (fun v6 wx=>QM w k n v6 wx)
 case first=>
  refine ba [7] (fun _=>True) (by kernel_rfl) ?_
  have C4:=ag (B4.out.drew);have HBc:=ag (bW.out.drew);have sY:=C4.out.lt;clear CR CV CP HG HX hW bW B4;generalize W.drew=Y at *;have hS:True:=trivial;refine aK 0 hS ?_;refine aK 1 hS ?_
  refine aK 2 hS ?_;refine aw.threeM 3 4 6 (by kernel_rfl) rfl rfl rfl ?_ ?_ ?_
  .intro K hK;refine c_ Y.heap.size 63 iv (.agg zv.toArray) 22 underlying24 hiv hzv0 hzv1 8 rfl rfl (by rw[hzv2];omega) (by unfold maxLen;omega) (Nat.le_refl _) ?_;intro YL hown hgr
   have CL:=ag (i_ hown);have bYL:Below Y.heap.size Y YL:=(Below.refl _ _).grown hgr (Nat.le_refl _) (fun k h=>by cases h);clear hown hgr;refine hK.out _ _ (fun _=>trivial) ?_;clear hK K
   try simp only[Act.put,ar,an,am,ah,aj,ai]
   replace C4:=ag (C4.out.kept bYL);replace HBc:=ag (bg HBc.out bYL);have sYL:=CL.out.lt;clear bYL;obtain⟨gL,hgL⟩:∃g,Hid (g=Y.heap.size):=⟨_,rfl⟩;rw[<-hgL.out]at CL sYL⊢
   have loL:Y.heap.size<=gL:=by rw[hgL.out];exact Nat.le_refl _
   clear hgL;refine aw.two 4 6 (by kernel_rfl) rfl rfl ?_ ?_
   .intro K hK;refine c_ YL.heap.size 3 i0 (.int .i64 0) 1 underlying25 hi hz0 hz1 8 rfl rfl (by rw[hz2];omega) (by unfold maxLen;omega) (Nat.le_refl _) ?_;intro YLZ hown hgr
    have CZ:=ag (fi (k:=.i64) (n:=8) hown);have bYLZ:Below YL.heap.size YL YLZ:=(Below.refl _ _).grown hgr (Nat.le_refl _) (fun k h=>by cases h);clear hown hgr;refine hK.out _ _ (fun _=>trivial) ?_
    clear hK K;try simp only[Act.put,ar,an,am,ah,aj,ai]
    replace CL:=ag (CL.out.kept bYLZ);replace C4:=ag (C4.out.kept bYLZ);replace HBc:=ag (bg HBc.out bYLZ);have sYLZ:=CZ.out.lt;clear bYLZ
    obtain⟨gZ,hgZ⟩:∃g,Hid (g=YL.heap.size):=⟨_,rfl⟩;rw[<-hgZ.out]at CZ sYLZ⊢;have loZ:YL.heap.size<=gZ:=by rw[hgZ.out];exact Nat.le_refl _
    clear hgZ;have hS:True:=trivial;refine aK 5 hS ?_;refine aO 6 ?_;intro K hK;go_simp;refine hK.out _ _ (fun _=>trivial) ?_;clear hK K;try simp only[Act.put,ar,an,am,ah,aj,ai]
    obtain⟨YLZX,hYLZX⟩:∃YLZX,YLZX=YLZ.alloc (.cells #[.int .i64 0,.int .i64 0,.slice none 0 0,.slice none 0 0] 27):=⟨_,rfl⟩;have bYLZX:Below YLZ.heap.size YLZ YLZX:=by rw[hYLZX];exact below_alloc _ _
    have CX:=ag (show aa YLZX YLZ.heap.size [.int .i64 0,.int .i64 0,.slice none 0 0,.slice none 0 0] 27 by rw[hYLZX];exact aa.new _ _ _);rw[<-hYLZX];clear hYLZX;replace CL:=ag (CL.out.kept bYLZX)
    replace CZ:=ag (CZ.out.kept bYLZX);replace C4:=ag (C4.out.kept bYLZX);replace HBc:=ag (bg HBc.out bYLZX);have sYLZX:=CX.out.lt;clear bYLZX
    obtain⟨gX,hgX⟩:∃g,Hid (g=YLZ.heap.size):=⟨_,rfl⟩;rw[<-hgX.out]at CX sYLZX⊢;have loX:YLZ.heap.size<=gX:=by rw[hgX.out];exact Nat.le_refl _
    clear hgX;have hS:True:=trivial;refine aO 7 ?_;intro K hK;have X4:=C4.out.lt
    refine iw gX [.int .i64 0,.int .i64 0,.slice none 0 0,.slice none 0 0] [.int .i64 k,.int .i64 (n:Int),.slice (some ⟨gL,0,none⟩) 8 8,.slice (some ⟨gZ,0,none⟩) 8 8] rfl rfl CX.out rfl fD (by simp[Value.oneCell']) ?_
    intro wE CE OE;refine hK.out _ _ (fun h=>absurd (by decide) h) ?_;clear hK K;try simp only[Act.put,ar,an,am,ah,aj,ai]
    refine aw.done (by kernel_rfl) ?_ _
    have hQ:Hid (QM w k n (.pointer (some ⟨gX,0,none⟩)) wE):=⟨gL,gZ,gX,rfl,⟨by omega,by omega,by omega,by omega,by omega,by omega⟩,CE,OE.cel CL.out (by omega),OE.cel CZ.out (by omega),OE.cel C4.out (by omega),HBc.out.trans (OE.below (by omega))⟩
    clear CE OE CL CZ CX C4 HBc;go_wp2_with fail;go_meet;exact hQ.out
   .intro K hK;go_simp;refine hK.out _ _ (fun _=>trivial) ?_;clear hK K;try simp only[Act.put,ar,an,am,ah,aj,ai]
    obtain⟨YLX,hYLX⟩:∃YLX,YLX=YL.alloc (.cells #[.int .i64 0,.int .i64 0,.slice none 0 0,.slice none 0 0] 27):=⟨_,rfl⟩;have bYLX:Below YL.heap.size YL YLX:=by rw[hYLX];exact below_alloc _ _
    have CX:=ag (show aa YLX YL.heap.size [.int .i64 0,.int .i64 0,.slice none 0 0,.slice none 0 0] 27 by rw[hYLX];exact aa.new _ _ _);rw[<-hYLX];clear hYLX;replace CL:=ag (CL.out.kept bYLX)
    replace C4:=ag (C4.out.kept bYLX);replace HBc:=ag (bg HBc.out bYLX);have sYLX:=CX.out.lt;clear bYLX;obtain⟨gX,hgX⟩:∃g,Hid (g=YL.heap.size):=⟨_,rfl⟩;rw[<-hgX.out]at CX sYLX⊢
    have loX:YL.heap.size<=gX:=by rw[hgX.out];exact Nat.le_refl _
    clear hgX;refine aO 4 ?_;intro K hK;refine c_ YLX.heap.size 3 i0 (.int .i64 0) 1 underlying25 hi hz0 hz1 8 rfl rfl (by rw[hz2];omega) (by unfold maxLen;omega) (Nat.le_refl _) ?_;intro YLXZ hown hgr
    have CZ:=ag (fi (k:=.i64) (n:=8) hown);have bYLXZ:Below YLX.heap.size YLX YLXZ:=(Below.refl _ _).grown hgr (Nat.le_refl _) (fun k h=>by cases h);clear hown hgr;refine hK.out _ _ (fun _=>trivial) ?_
    clear hK K;try simp only[Act.put,ar,an,am,ah,aj,ai]
    replace CL:=ag (CL.out.kept bYLXZ);replace CX:=ag (CX.out.kept bYLXZ);replace C4:=ag (C4.out.kept bYLXZ);replace HBc:=ag (bg HBc.out bYLXZ);have sYLXZ:=CZ.out.lt;clear bYLXZ
    obtain⟨gZ,hgZ⟩:∃g,Hid (g=YLX.heap.size):=⟨_,rfl⟩;rw[<-hgZ.out]at CZ sYLXZ⊢;have loZ:YLX.heap.size<=gZ:=by rw[hgZ.out];exact Nat.le_refl _
    clear hgZ;have hS:True:=trivial;refine aK 5 hS ?_;refine aO 7 ?_;intro K hK;have X4:=C4.out.lt
    refine iw gX [.int .i64 0,.int .i64 0,.slice none 0 0,.slice none 0 0] [.int .i64 k,.int .i64 (n:Int),.slice (some ⟨gL,0,none⟩) 8 8,.slice (some ⟨gZ,0,none⟩) 8 8] rfl rfl CX.out rfl fD (by simp[Value.oneCell']) ?_
    intro wE CE OE;refine hK.out _ _ (fun h=>absurd (by decide) h) ?_;clear hK K;try simp only[Act.put,ar,an,am,ah,aj,ai]
    refine aw.done (by kernel_rfl) ?_ _
    have hQ:Hid (QM w k n (.pointer (some ⟨gX,0,none⟩)) wE):=⟨gL,gZ,gX,rfl,⟨by omega,by omega,by omega,by omega,by omega,by omega⟩,CE,OE.cel CL.out (by omega),OE.cel CZ.out (by omega),OE.cel C4.out (by omega),HBc.out.trans (OE.below (by omega))⟩
    clear CE OE CL CZ CX C4 HBc;go_wp2_with fail;go_meet;exact hQ.out
  .intro K hK;refine c_ Y.heap.size 3 i0 (.int .i64 0) 1 underlying25 hi hz0 hz1 8 rfl rfl (by rw[hz2];omega) (by unfold maxLen;omega) (Nat.le_refl _) ?_;intro YZ hown hgr
   have CZ:=ag (fi (k:=.i64) (n:=8) hown);have bYZ:Below Y.heap.size Y YZ:=(Below.refl _ _).grown hgr (Nat.le_refl _) (fun k h=>by cases h);clear hown hgr;refine hK.out _ _ (fun _=>trivial) ?_;clear hK K
   try simp only[Act.put,ar,an,am,ah,aj,ai]
   replace C4:=ag (C4.out.kept bYZ);replace HBc:=ag (bg HBc.out bYZ);have sYZ:=CZ.out.lt;clear bYZ;obtain⟨gZ,hgZ⟩:∃g,Hid (g=Y.heap.size):=⟨_,rfl⟩;rw[<-hgZ.out]at CZ sYZ⊢
   have loZ:Y.heap.size<=gZ:=by rw[hgZ.out];exact Nat.le_refl _
   clear hgZ;refine aw.two 3 6 (by kernel_rfl) rfl rfl ?_ ?_
   .intro K hK;refine c_ YZ.heap.size 63 iv (.agg zv.toArray) 22 underlying24 hiv hzv0 hzv1 8 rfl rfl (by rw[hzv2];omega) (by unfold maxLen;omega) (Nat.le_refl _) ?_;intro YZL hown hgr
    have CL:=ag (i_ hown);have bYZL:Below YZ.heap.size YZ YZL:=(Below.refl _ _).grown hgr (Nat.le_refl _) (fun k h=>by cases h);clear hown hgr;refine hK.out _ _ (fun _=>trivial) ?_;clear hK K
    try simp only[Act.put,ar,an,am,ah,aj,ai]
    replace CZ:=ag (CZ.out.kept bYZL);replace C4:=ag (C4.out.kept bYZL);replace HBc:=ag (bg HBc.out bYZL);have sYZL:=CL.out.lt;clear bYZL
    obtain⟨gL,hgL⟩:∃g,Hid (g=YZ.heap.size):=⟨_,rfl⟩;rw[<-hgL.out]at CL sYZL⊢;have loL:YZ.heap.size<=gL:=by rw[hgL.out];exact Nat.le_refl _
    clear hgL;have hS:True:=trivial;refine aK 5 hS ?_;refine aO 6 ?_;intro K hK;go_simp;refine hK.out _ _ (fun _=>trivial) ?_;clear hK K;try simp only[Act.put,ar,an,am,ah,aj,ai]
    obtain⟨YZLX,hYZLX⟩:∃YZLX,YZLX=YZL.alloc (.cells #[.int .i64 0,.int .i64 0,.slice none 0 0,.slice none 0 0] 27):=⟨_,rfl⟩;have bYZLX:Below YZL.heap.size YZL YZLX:=by rw[hYZLX];exact below_alloc _ _
    have CX:=ag (show aa YZLX YZL.heap.size [.int .i64 0,.int .i64 0,.slice none 0 0,.slice none 0 0] 27 by rw[hYZLX];exact aa.new _ _ _);rw[<-hYZLX];clear hYZLX;replace CZ:=ag (CZ.out.kept bYZLX)
    replace CL:=ag (CL.out.kept bYZLX);replace C4:=ag (C4.out.kept bYZLX);replace HBc:=ag (bg HBc.out bYZLX);have sYZLX:=CX.out.lt;clear bYZLX
    obtain⟨gX,hgX⟩:∃g,Hid (g=YZL.heap.size):=⟨_,rfl⟩;rw[<-hgX.out]at CX sYZLX⊢;have loX:YZL.heap.size<=gX:=by rw[hgX.out];exact Nat.le_refl _
    clear hgX;have hS:True:=trivial;refine aO 7 ?_;intro K hK;have X4:=C4.out.lt
    refine iw gX [.int .i64 0,.int .i64 0,.slice none 0 0,.slice none 0 0] [.int .i64 k,.int .i64 (n:Int),.slice (some ⟨gL,0,none⟩) 8 8,.slice (some ⟨gZ,0,none⟩) 8 8] rfl rfl CX.out rfl fD (by simp[Value.oneCell']) ?_
    intro wE CE OE;refine hK.out _ _ (fun h=>absurd (by decide) h) ?_;clear hK K;try simp only[Act.put,ar,an,am,ah,aj,ai]
    refine aw.done (by kernel_rfl) ?_ _
    have hQ:Hid (QM w k n (.pointer (some ⟨gX,0,none⟩)) wE):=⟨gL,gZ,gX,rfl,⟨by omega,by omega,by omega,by omega,by omega,by omega⟩,CE,OE.cel CL.out (by omega),OE.cel CZ.out (by omega),OE.cel C4.out (by omega),HBc.out.trans (OE.below (by omega))⟩
    clear CE OE CL CZ CX C4 HBc;go_wp2_with fail;go_meet;exact hQ.out
   .intro K hK;go_simp;refine hK.out _ _ (fun _=>trivial) ?_;clear hK K;try simp only[Act.put,ar,an,am,ah,aj,ai]
    obtain⟨YZX,hYZX⟩:∃YZX,YZX=YZ.alloc (.cells #[.int .i64 0,.int .i64 0,.slice none 0 0,.slice none 0 0] 27):=⟨_,rfl⟩;have bYZX:Below YZ.heap.size YZ YZX:=by rw[hYZX];exact below_alloc _ _
    have CX:=ag (show aa YZX YZ.heap.size [.int .i64 0,.int .i64 0,.slice none 0 0,.slice none 0 0] 27 by rw[hYZX];exact aa.new _ _ _);rw[<-hYZX];clear hYZX;replace CZ:=ag (CZ.out.kept bYZX)
    replace C4:=ag (C4.out.kept bYZX);replace HBc:=ag (bg HBc.out bYZX);have sYZX:=CX.out.lt;clear bYZX;obtain⟨gX,hgX⟩:∃g,Hid (g=YZ.heap.size):=⟨_,rfl⟩;rw[<-hgX.out]at CX sYZX⊢
    have loX:YZ.heap.size<=gX:=by rw[hgX.out];exact Nat.le_refl _
    clear hgX;refine aO 3 ?_;intro K hK;refine c_ YZX.heap.size 63 iv (.agg zv.toArray) 22 underlying24 hiv hzv0 hzv1 8 rfl rfl (by rw[hzv2];omega) (by unfold maxLen;omega) (Nat.le_refl _) ?_
    intro YZXL hown hgr;have CL:=ag (i_ hown);have bYZXL:Below YZX.heap.size YZX YZXL:=(Below.refl _ _).grown hgr (Nat.le_refl _) (fun k h=>by cases h);clear hown hgr;refine hK.out _ _ (fun _=>trivial) ?_
    clear hK K;try simp only[Act.put,ar,an,am,ah,aj,ai]
    replace CZ:=ag (CZ.out.kept bYZXL);replace CX:=ag (CX.out.kept bYZXL);replace C4:=ag (C4.out.kept bYZXL);replace HBc:=ag (bg HBc.out bYZXL);have sYZXL:=CL.out.lt;clear bYZXL
    obtain⟨gL,hgL⟩:∃g,Hid (g=YZX.heap.size):=⟨_,rfl⟩;rw[<-hgL.out]at CL sYZXL⊢;have loL:YZX.heap.size<=gL:=by rw[hgL.out];exact Nat.le_refl _
    clear hgL;have hS:True:=trivial;refine aK 5 hS ?_;refine aO 7 ?_;intro K hK;have X4:=C4.out.lt
    refine iw gX [.int .i64 0,.int .i64 0,.slice none 0 0,.slice none 0 0] [.int .i64 k,.int .i64 (n:Int),.slice (some ⟨gL,0,none⟩) 8 8,.slice (some ⟨gZ,0,none⟩) 8 8] rfl rfl CX.out rfl fD (by simp[Value.oneCell']) ?_
    intro wE CE OE;refine hK.out _ _ (fun h=>absurd (by decide) h) ?_;clear hK K;try simp only[Act.put,ar,an,am,ah,aj,ai]
    refine aw.done (by kernel_rfl) ?_ _
    have hQ:Hid (QM w k n (.pointer (some ⟨gX,0,none⟩)) wE):=⟨gL,gZ,gX,rfl,⟨by omega,by omega,by omega,by omega,by omega,by omega⟩,CE,OE.cel CL.out (by omega),OE.cel CZ.out (by omega),OE.cel C4.out (by omega),HBc.out.trans (OE.below (by omega))⟩
    clear CE OE CL CZ CX C4 HBc;go_wp2_with fail;go_meet;exact hQ.out
  .intro K hK;go_simp;refine hK.out _ _ (fun _=>trivial) ?_;clear hK K;try simp only[Act.put,ar,an,am,ah,aj,ai]
   obtain⟨YX,hYX⟩:∃YX,YX=Y.alloc (.cells #[.int .i64 0,.int .i64 0,.slice none 0 0,.slice none 0 0] 27):=⟨_,rfl⟩;have bYX:Below Y.heap.size Y YX:=by rw[hYX];exact below_alloc _ _
   have CX:=ag (show aa YX Y.heap.size [.int .i64 0,.int .i64 0,.slice none 0 0,.slice none 0 0] 27 by rw[hYX];exact aa.new _ _ _);rw[<-hYX];clear hYX;replace C4:=ag (C4.out.kept bYX)
   replace HBc:=ag (bg HBc.out bYX);have sYX:=CX.out.lt;clear bYX;obtain⟨gX,hgX⟩:∃g,Hid (g=Y.heap.size):=⟨_,rfl⟩;rw[<-hgX.out]at CX sYX⊢
   have loX:Y.heap.size<=gX:=by rw[hgX.out];exact Nat.le_refl _
   clear hgX;refine aw.two 3 4 (by kernel_rfl) rfl rfl ?_ ?_
   .intro K hK;refine c_ YX.heap.size 63 iv (.agg zv.toArray) 22 underlying24 hiv hzv0 hzv1 8 rfl rfl (by rw[hzv2];omega) (by unfold maxLen;omega) (Nat.le_refl _) ?_;intro YXL hown hgr
    have CL:=ag (i_ hown);have bYXL:Below YX.heap.size YX YXL:=(Below.refl _ _).grown hgr (Nat.le_refl _) (fun k h=>by cases h);clear hown hgr;refine hK.out _ _ (fun _=>trivial) ?_;clear hK K
    try simp only[Act.put,ar,an,am,ah,aj,ai]
    replace CX:=ag (CX.out.kept bYXL);replace C4:=ag (C4.out.kept bYXL);replace HBc:=ag (bg HBc.out bYXL);have sYXL:=CL.out.lt;clear bYXL
    obtain⟨gL,hgL⟩:∃g,Hid (g=YX.heap.size):=⟨_,rfl⟩;rw[<-hgL.out]at CL sYXL⊢;have loL:YX.heap.size<=gL:=by rw[hgL.out];exact Nat.le_refl _
    clear hgL;refine aO 4 ?_;intro K hK;refine c_ YXL.heap.size 3 i0 (.int .i64 0) 1 underlying25 hi hz0 hz1 8 rfl rfl (by rw[hz2];omega) (by unfold maxLen;omega) (Nat.le_refl _) ?_;intro YXLZ hown hgr
    have CZ:=ag (fi (k:=.i64) (n:=8) hown);have bYXLZ:Below YXL.heap.size YXL YXLZ:=(Below.refl _ _).grown hgr (Nat.le_refl _) (fun k h=>by cases h);clear hown hgr;refine hK.out _ _ (fun _=>trivial) ?_
    clear hK K;try simp only[Act.put,ar,an,am,ah,aj,ai]
    replace CX:=ag (CX.out.kept bYXLZ);replace CL:=ag (CL.out.kept bYXLZ);replace C4:=ag (C4.out.kept bYXLZ);replace HBc:=ag (bg HBc.out bYXLZ);have sYXLZ:=CZ.out.lt;clear bYXLZ
    obtain⟨gZ,hgZ⟩:∃g,Hid (g=YXL.heap.size):=⟨_,rfl⟩;rw[<-hgZ.out]at CZ sYXLZ⊢;have loZ:YXL.heap.size<=gZ:=by rw[hgZ.out];exact Nat.le_refl _
    clear hgZ;have hS:True:=trivial;refine aK 5 hS ?_;refine aO 7 ?_;intro K hK;have X4:=C4.out.lt
    refine iw gX [.int .i64 0,.int .i64 0,.slice none 0 0,.slice none 0 0] [.int .i64 k,.int .i64 (n:Int),.slice (some ⟨gL,0,none⟩) 8 8,.slice (some ⟨gZ,0,none⟩) 8 8] rfl rfl CX.out rfl fD (by simp[Value.oneCell']) ?_
    intro wE CE OE;refine hK.out _ _ (fun h=>absurd (by decide) h) ?_;clear hK K;try simp only[Act.put,ar,an,am,ah,aj,ai]
    refine aw.done (by kernel_rfl) ?_ _
    have hQ:Hid (QM w k n (.pointer (some ⟨gX,0,none⟩)) wE):=⟨gL,gZ,gX,rfl,⟨by omega,by omega,by omega,by omega,by omega,by omega⟩,CE,OE.cel CL.out (by omega),OE.cel CZ.out (by omega),OE.cel C4.out (by omega),HBc.out.trans (OE.below (by omega))⟩
    clear CE OE CL CZ CX C4 HBc;go_wp2_with fail;go_meet;exact hQ.out
   .intro K hK;refine c_ YX.heap.size 3 i0 (.int .i64 0) 1 underlying25 hi hz0 hz1 8 rfl rfl (by rw[hz2];omega) (by unfold maxLen;omega) (Nat.le_refl _) ?_;intro YXZ hown hgr
    have CZ:=ag (fi (k:=.i64) (n:=8) hown);have bYXZ:Below YX.heap.size YX YXZ:=(Below.refl _ _).grown hgr (Nat.le_refl _) (fun k h=>by cases h);clear hown hgr;refine hK.out _ _ (fun _=>trivial) ?_
    clear hK K;try simp only[Act.put,ar,an,am,ah,aj,ai]
    replace CX:=ag (CX.out.kept bYXZ);replace C4:=ag (C4.out.kept bYXZ);replace HBc:=ag (bg HBc.out bYXZ);have sYXZ:=CZ.out.lt;clear bYXZ
    obtain⟨gZ,hgZ⟩:∃g,Hid (g=YX.heap.size):=⟨_,rfl⟩;rw[<-hgZ.out]at CZ sYXZ⊢;have loZ:YX.heap.size<=gZ:=by rw[hgZ.out];exact Nat.le_refl _
    clear hgZ;refine aO 3 ?_;intro K hK;refine c_ YXZ.heap.size 63 iv (.agg zv.toArray) 22 underlying24 hiv hzv0 hzv1 8 rfl rfl (by rw[hzv2];omega) (by unfold maxLen;omega) (Nat.le_refl _) ?_
    intro YXZL hown hgr;have CL:=ag (i_ hown);have bYXZL:Below YXZ.heap.size YXZ YXZL:=(Below.refl _ _).grown hgr (Nat.le_refl _) (fun k h=>by cases h);clear hown hgr;refine hK.out _ _ (fun _=>trivial) ?_
    clear hK K;try simp only[Act.put,ar,an,am,ah,aj,ai]
    replace CX:=ag (CX.out.kept bYXZL);replace CZ:=ag (CZ.out.kept bYXZL);replace C4:=ag (C4.out.kept bYXZL);replace HBc:=ag (bg HBc.out bYXZL);have sYXZL:=CL.out.lt;clear bYXZL
    obtain⟨gL,hgL⟩:∃g,Hid (g=YXZ.heap.size):=⟨_,rfl⟩;rw[<-hgL.out]at CL sYXZL⊢;have loL:YXZ.heap.size<=gL:=by rw[hgL.out];exact Nat.le_refl _
    clear hgL;have hS:True:=trivial;refine aK 5 hS ?_;refine aO 7 ?_;intro K hK;have X4:=C4.out.lt
    refine iw gX [.int .i64 0,.int .i64 0,.slice none 0 0,.slice none 0 0] [.int .i64 k,.int .i64 (n:Int),.slice (some ⟨gL,0,none⟩) 8 8,.slice (some ⟨gZ,0,none⟩) 8 8] rfl rfl CX.out rfl fD (by simp[Value.oneCell']) ?_
    intro wE CE OE;refine hK.out _ _ (fun h=>absurd (by decide) h) ?_;clear hK K;try simp only[Act.put,ar,an,am,ah,aj,ai]
    refine aw.done (by kernel_rfl) ?_ _
    have hQ:Hid (QM w k n (.pointer (some ⟨gX,0,none⟩)) wE):=⟨gL,gZ,gX,rfl,⟨by omega,by omega,by omega,by omega,by omega,by omega⟩,CE,OE.cel CL.out (by omega),OE.cel CZ.out (by omega),OE.cel C4.out (by omega),HBc.out.trans (OE.below (by omega))⟩
    clear CE OE CL CZ CX C4 HBc;go_wp2_with fail;go_meet;exact hQ.out
 case rest=>
  obtain⟨gL,gz,gx,rfl,⟨o1,o2,o3,o4,o5,o6⟩,cx,cl,cz,c4,hbx⟩:=hcut;have C4:=ag c4;have CX:=ag cx;have HBx:=ag hbx;have HZ:=ag (show aa wc gz (vK .i64 (zq t 0)) 3 by rw[sC];exact cz)
  have HRw:=ag (show dP wc gL wc.heap.size (fun l=>kB k (t.length:Int) (aC (Mx.rw_ t l))) []from⟨Nat.zero_le _,by simpa using cl,fun l c e=>by simp at e⟩)
  have HS:=ag (show Bd wc ao (Mx.sy t 0)by rw[Mx.sy_zero];exact HX.out.keep hbx);have bz:=CX.out.lt;have bzL:=cl.lt;have bzZ:=cz.lt;obtain⟨B0,hB0⟩:∃B0,Hid (B0=wc.heap.size):=⟨_,rfl⟩
  have hLB:gL<B0:=by rw[hB0.out];exact bzL
  have hzB:gz<B0:=by rw[hB0.out];exact bzZ
  have hxB:gx<B0:=by rw[hB0.out];exact bz
  have h0B:Hid (B0<=wc.heap.size):=by rw[hB0.out];exact Nat.le_refl _
  rw[<-hB0.out]at HRw
  have HAp:Hid (∀a,ao=some a->0<t.length->a.block<w.heap.size\/B0<=a.block):=fun a ha h0=>by
   obtain⟨b,off,e,hb,_⟩:=HX.out h0;rw[e]at ha;cases ha;exact .inl hb
  clear cx cl cz c4 hbx bz bzL bzZ HX hW bW B4 hi hz0 hz1 hz2 hiv hzv0 hzv1 hzv2 hB0;go_wp2
  go_loopw [7,23] (fun vs vl wr=>∃(q:Nat) (so:Option Addr) (sc:Nat) (css:List (List Value)),q<=8/\vl=.int .i64 q/\vs=.slice so n sc/\Hid (css.length=q)/\Hid (Bd wr so (Mx.sy t q))/\Hid (∀a,so=some a->0<t.length->a.block<w.heap.size\/B0<=a.block)/\Hid (dP wr gL B0 (fun l=>kB k (t.length:Int) (aC (Mx.rw_ t l))) css)/\Hid (aa wr gz (vK .i64 (zq t q)) 3)/\Hid (aa wr gx [.int .i64 k,.int .i64 (n:Int),.slice (some ⟨gL,0,none⟩) 8 8,.slice (some ⟨gz,0,none⟩) 8 8] 27)/\Hid (aa wr w.heap.size [.int .i64 0,.int .i64 0,.slice none 0 0,.slice none 0 0] 27)/\Hid (B0<=wr.heap.size)/\Hid (Below w.heap.size w wr)) (fun _ vl _=>8-(intOf vl).toNat)
  case atStart=>exact⟨0,ao,cap,[],Nat.zero_le _,rfl,rfl,rfl,HS,HAp,HRw,HZ,CX,C4,h0B,HBx⟩
  case round=>
   clear HS HAp HRw HZ CX C4 h0B HBx;obtain⟨q,so,sc,css,hq,rfl,rfl,hcl,HS,HAp,HRw,HZ,CX,C4,h0B,HB⟩:=hrel;by_cases hlt:q<8
   .have hltz:(q:Int)<8:=by omega
    obtain⟨W1,hW1⟩:∃W1,W1=wr.alloc (.cells #[.int .i64 (q:Int)] 3):=⟨_,rfl⟩;have b1:Below wr.heap.size wr W1:=by rw[hW1];exact below_alloc wr _
    have CLb:=ag (show aa W1 wr.heap.size [.int .i64 (q:Int)] 3 by rw[hW1];exact aa.new wr _ _);replace HS:=ag (HS.out.keep b1);replace HRw:=ag (HRw.out.keep b1);replace HZ:=ag (HZ.out.kept b1)
    replace CX:=ag (CX.out.kept b1);replace C4:=ag (C4.out.kept b1);replace HB:=ag (bg HB.out b1);obtain⟨gl,hgl⟩:∃gl,Hid (gl=wr.heap.size):=⟨_,rfl⟩
    have hgB:B0<=gl:=by rw[hgl.out];exact h0B.out
    have z1:=b1.size;rw[<-hgl.out]at CLb;have CRq:=ag (CR.out q so sc gl W1 hlt HS.out CLb.out);go_wp2_with fail;rw[<-hW1,<-hgl.out];clear b1 hW1 CR hgl;refine CRq.out.mono ?_;rintro e w2 ⟨bo,dap,rfl,x1,x2,hb⟩
    replace HS:=ag (HS.out.keep hb);replace HRw:=ag (HRw.out.keep hb);replace HZ:=ag (HZ.out.kept hb);replace CX:=ag (CX.out.kept hb);replace C4:=ag (C4.out.kept hb);replace CLb:=ag (CLb.out.kept hb)
    replace HB:=ag (bg HB.out hb);have z2:=hb.size;have CVq:=ag (CV.out q bo dap w2 HB.out x1 x2);clear hb CRq CV x1 x2;go_wp2_with fail;refine CVq.out.mono ?_;rintro e w3 ⟨cs,rfl,hki,hb,nf⟩
    replace HS:=ag (HS.out.keep hb);replace HRw:=ag (HRw.out.keep hb);replace HZ:=ag (HZ.out.kept hb);replace CX:=ag (CX.out.kept hb);replace C4:=ag (C4.out.kept hb);replace CLb:=ag (CLb.out.kept hb)
    replace HB:=ag (bg HB.out hb);have z3:=hb.size;have hB2:B0<=w2.heap.size:=Nat.le_trans h0B.out (Nat.le_trans z1 z2);have NF:Hid (fm B0 cs):=⟨nf.1.mono hB2,nf.2.mono hB2⟩
    have HL:=ag hki.arg.len;have H1:=ag hki.arg.one;have H22:=ag (lQ.trans hki.arg.nine);have HK:=ag hki;have hgl3:=CLb.out.lt;clear hb CVq nf hki;go_wp2_with (refine pF mY ?_)
    intro w4 B5 hb4 hs4;try simp only[Act.put,ah,List.set]
    have HB4:=ag hb4;clear hb4;go_wp2_with (refine aJ w3.heap.size zv cs rfl rfl B5 H22.out HL.out H1.out ?_);intro w5 B6 hO5;try simp only[Act.put,ah,List.set]
    have b5:Below w3.heap.size w3 w5:=HB4.out.trans (hO5.below (Nat.le_refl _));replace HS:=ag (HS.out.keep b5);replace HRw:=ag (HRw.out.keep b5);replace HZ:=ag (HZ.out.kept b5)
    replace CX:=ag (CX.out.kept b5);replace C4:=ag (C4.out.kept b5);replace CLb:=ag (CLb.out.kept b5);replace HK:=ag (HK.out.keep b5);replace HB:=ag (bg HB.out b5);have z5:=b5.size
    have B6h:=ag B6;have ez:bQ (8-css.length)=zv++bQ (7-q):=by rw[hcl.out,show 8-q=7-q+1 by omega];rfl
    have ep:Hid (css.flatten.length=q*22):=by show _=_;rw[qU css HRw.out.l22,hcl.out]
    have cL:=HRw.out.cel;rw[ez]at cL;have x2:=CX.out.cell 2 rfl;have l0:=CLb.out.cell 0 rfl;clear b5 HB4 hO5 B5 hs4 ez
    go_wp2_with (first | refine bE w3.heap.size cs (by rfl) rfl B6 underlying63 HL.out ?_ | refine y_ gL (q*22) css.flatten zv (bQ (7-q)) cs ep.out rfl rfl cL H22.out HL.out H1.out ?_);intro w6 c6 o6
    try simp only[Act.put,ah,List.set]
    have G6:=(HG.out.keep HB.out).only o6 (by omega);have R6:=ag (HRw.out.push hLB (by rw[hcl.out];exact hlt) (by rw[hcl.out];exact HK.out) NF.out (by rw[hcl.out];exact c6) o6 G6)
    have lS:Hid ((css++[cs]).length=q+1):=by show _=_;rw[List.length_append,hcl.out];rfl
    have S6:Hid (Bd w6 so (Mx.sy t q)):=xN HS.out (fun a ha h0=>by rw[Mx.length_sy]at h0;rcases HAp.out a ha h0 with e | e<;>omega) o6;have Z6:=ag (o6.cel HZ.out (by omega))
    have X6:=ag (o6.cel CX.out (by omega));have F6:=ag (o6.cel C4.out (by omega));have L6:=ag (o6.cel CLb.out (by omega));have HB6:=ag (HB.out.trans (o6.below (by omega)))
    have z6:w6.heap.size=w5.heap.size:=o6.size;have z6':Hid (w6.heap.size=w5.heap.size):=z6;have h06:Hid (B0<=w6.heap.size):=by show B0<=_;omega
    clear c6 o6 cL B6 B6h HRw HS HZ CX C4 CLb HB HK x2 l0 z6 G6;have CPq:=ag (fun w0 h1 h2=>CP.out q so sc gl w0 hlt h1 h2);clear CP;go_wp2
    refine ba [11] (fun w'=>aa w' gx [.int .i64 k,.int .i64 (n:Int),.slice (some ⟨gL,0,none⟩) 8 8,.slice (some ⟨gz,0,none⟩) 8 8] 27/\aa w' gl [.int .i64 (q:Int)] 3/\Bd w' so (Mx.sy t q)/\dP w' gL B0 (fun l=>kB k (t.length:Int) (aC (Mx.rw_ t l))) (css++[cs])/\aa w' gz (vK .i64 (zq t q)) 3/\aa w' w.heap.size [.int .i64 0,.int .i64 0,.slice none 0 0,.slice none 0 0] 27/\B0<=w'.heap.size/\Below w.heap.size w w') (by kernel_rfl) ?_
    have hS:(fun w'=>aa w' gx [.int .i64 k,.int .i64 (n:Int),.slice (some ⟨gL,0,none⟩) 8 8,.slice (some ⟨gz,0,none⟩) 8 8] 27/\aa w' gl [.int .i64 (q:Int)] 3/\Bd w' so (Mx.sy t q)/\dP w' gL B0 (fun l=>kB k (t.length:Int) (aC (Mx.rw_ t l))) (css++[cs])/\aa w' gz (vK .i64 (zq t q)) 3/\aa w' w.heap.size [.int .i64 0,.int .i64 0,.slice none 0 0,.slice none 0 0] 27/\B0<=w'.heap.size/\Below w.heap.size w w') w6.drew:=⟨X6.out.drew,L6.out.drew,S6.out.keep ((Below.refl _ _).drew),R6.out.keep ((Below.refl _ _).drew),Z6.out.drew,F6.out.drew,h06.out,HB6.out.drew⟩
    clear X6 L6 S6 R6 Z6 F6 h06 HB6 z6';generalize w6.drew=V at *;refine aF 0 hS rfl (fun w0 h0=>by have y3:=h0.1.cell 3 rfl;have l0:=h0.2.1.cell 0 rfl;go_simp;try with_reducible rfl) ?_
    refine aF 1 hS rfl (fun w0 h0=>by have y3:=h0.1.cell 3 rfl;have l0:=h0.2.1.cell 0 rfl;go_simp;try with_reducible rfl) ?_
    refine aF 2 hS rfl (fun w0 h0=>by have y3:=h0.1.cell 3 rfl;have l0:=h0.2.1.cell 0 rfl;go_simp;try with_reducible rfl) ?_;refine aK 3 hS ?_;refine aK 4 hS ?_;refine aO 5 ?_;intro K hK;go_simp
    refine(CPq.out _ hS.2.2.1 hS.2.1).mono ?_;rintro e w7 ⟨ao2,cap2,rfl,hbd,hfr,hb⟩
    have hfr2:Hid (∀a,ao2=some a->0<t.length->a.block<w.heap.size\/B0<=a.block):=fun a ha _=>.inr (Nat.le_trans hS.2.2.2.2.2.2.1 (hfr a ha));have NB:=ag hbd
    replace hS:=And.intro (hS.1.kept hb) (And.intro (hS.2.1.kept hb) (And.intro (hS.2.2.1.keep hb) (And.intro (hS.2.2.2.1.keep hb) (And.intro (hS.2.2.2.2.1.kept hb) (And.intro (hS.2.2.2.2.2.1.kept hb) (And.intro (Nat.le_trans hS.2.2.2.2.2.2.1 hb.size) (hS.2.2.2.2.2.2.2.trans (hb.mono hS.2.2.2.2.2.2.2.size))))))))
    clear hb hfr hbd CPq;refine hK.out _ _ (fun _=>hS) ?_;clear hK K;try simp only[Act.put,ar,an,am,ah,aj,ai]
    refine aK 6 hS ?_;refine aK 7 hS ?_;refine aK 8 hS ?_;refine aK 9 hS ?_;refine aK 10 hS ?_;refine aO 11 ?_;intro K hK
    have hz0:=hS.2.2.2.2.1.cell q (gE _ _ q (by rw[oH];exact hlt));have fz0:=hS.2.2.2.2.1.frozen q;go_simp;refine hK.out _ _ (fun h=>absurd (by decide) h) ?_;clear hK K
    try simp only[Act.put,ar,an,am,ah,aj,ai]
    refine aw.done (by kernel_rfl) ?_ _;obtain⟨s1,s2,s3,s4,s5,s6,s7,s8⟩:=hS;obtain⟨zz,hzz⟩:∃zz,Hid (zz=Mx.zs t q):=⟨_,rfl⟩;rw[<-hzz.out]
    have o7:aB gz w7 (w7.setCell ⟨gz,q,none⟩ (.int .i64 (zz:Nat))):=(aB.refl _ _).set q _
    have Z7:Hid (aa (w7.setCell ⟨gz,q,none⟩ (.int .i64 (zz:Nat))) gz (vK .i64 (zq t (q+1))) 3):=by
     have:=s5.set q (.int .i64 (zz:Nat));rw[nI,hzz.out,xW t q hlt,<-hzz.out]at this;exact this
    have G7:=(HG.out.keep s8).only o7 (by omega);have R7:=ag (s4.only (fun e=>o4 e.symm) hzB s5 (qv _ (by decide) _) o7 G7)
    have S7:Hid (Bd (w7.setCell ⟨gz,q,none⟩ (.int .i64 (zz:Nat))) ao2 (Mx.sy t (q+1))):=xN NB.out (fun a ha h0=>by rw[Mx.length_sy]at h0;rcases hfr2.out a ha h0 with e | e<;>omega) o7
    have X7:=ag (o7.cel s1 (by omega));have F7:=ag (o7.cel s6 (by omega));have h07:Hid (B0<=(w7.setCell ⟨gz,q,none⟩ (.int .i64 (zz:Nat))).heap.size):=by show B0<=_;rw[o7.size];exact s7
    have HB7:=ag (s8.trans (o7.below (by omega)));clear s1 s2 s3 s4 s5 s6 s7 s8 o7 G7 hz0 fz0 NB;go_wp2
    exact⟨⟨q+1,ao2,cap2,css++[cs],by omega,by go_num,rfl,lS,S7,hfr2,R7,Z7,X7,F7,h07,HB7⟩,by simp only[intOf];omega⟩
   .obtain rfl:q=8:=by omega
    have x0:=CX.out.cell 0 rfl;have x1:=CX.out.cell 1 rfl;have x2:=CX.out.cell 2 rfl;have x3:=CX.out.cell 3 rfl;have c4:=C4.out;clear CR CV CP
    go_wp2_with (refine aJ w.heap.size [.int .i64 0,.int .i64 0,.slice none 0 0,.slice none 0 0] [.int .i64 k,.int .i64 (n:Int),.slice (some ⟨gL,0,none⟩) 8 8,.slice (some ⟨gz,0,none⟩) 8 8] rfl rfl c4 rfl fD (by simp[Value.oneCell']) ?_)
    intro w6 c6 o6;try simp only[Act.put,ah,List.set]
    have G6:=(HG.out.keep HB.out).only o6 (by omega);have R6:=HRw.out.only (g0:=w.heap.size) (by omega) (by omega) C4.out (fun v hv n e=>by subst e;simp at hv) o6 G6;have Z6:=o6.cel HZ.out (by omega)
    rw[xX]at Z6;have HC:=ag c6
    have HM:=ag (show MX w6 [.int .i64 k,.int .i64 (n:Int),.slice (some ⟨gL,0,none⟩) 8 8,.slice (some ⟨gz,0,none⟩) 8 8] k t from⟨⟨_,_,_,_,by rw[hnn.out],R6.lv (mA k t) hcl.out (iA k t) (fun l hl=>lI k t hl),uK Z6⟩,hk,hn,hB,G6⟩)
    have HB6:=ag (HB.out.trans (o6.below (Nat.le_refl _)));clear c6 o6 C4 HB HRw HZ CX x0 x1 x2 x3 c4 R6 Z6 HS HAp h0B;go_wp2
    (try simp only[Exit.inBlock,Exit.then]);exact bodyPost_ret (bj rfl w.heap.size _ rfl HC.out underlying27 fD) rfl ⟨_,rfl,HM.out,HB6.out⟩
def iy(n i:Nat):List Nat:=(List.range n).map fun j=>if j<i then j else 0
theorem oJ(n i:Nat):(iy n i).length=n:=by simp[iy]
theorem wD(n i j:Nat)(h:j<n):gt (iy n i) j=if j<i then j else 0:=by
 unfold iy gt;rw[List.getD_eq_getElem?_getD,List.getElem?_map,List.getElem?_range h];rfl
theorem Eh(n:Nat):iy n 0=List.replicate n 0:=by
 unfold iy;rw[show(fun j=>if j<0 then j else 0)=fun _=>0 by funext j;simp,List.map_const'];simp
theorem Ej(n:Nat):iy n n=List.range n:=by
 unfold iy;refine(List.map_congr_left fun j hj=>?_).trans (List.map_id _);rw[if_pos (List.mem_range.1 hj)];rfl
theorem Ei(n i:Nat)(h:i<n):(iy n i).set i i=iy n (i+1):=by
 refine list_ext _ _ (by simp[oJ]) fun c hc=>?_;rw[List.length_set,oJ]at hc;rw[gt_set _ _ _ _ (by rw[oJ];exact h),wD _ _ _ hc,wD _ _ _ hc];by_cases e:i=c
 .subst e;rw[if_pos rfl,if_pos (by omega)]
 .rw[if_neg e];by_cases d:c<i
  .rw[if_pos d,if_pos (by omega)]
  .rw[if_neg d,if_neg (by omega)]
theorem mN(n:Nat)(w:World)(hn:n<=1048576):
  Calls prog 46 #[.int .i64 (n:Int)] w fun e w'=>∃g,e=.returned (.slice (some ⟨g,0,none⟩) n n)/\aa w' g (vK .i64 (List.range n)) 3/\w.heap.size<=g/\Below w.heap.size w w':=by
 obtain⟨i0,hi,hz0,hz1,hz2⟩:=info_parts jL;go_enter func46,ntmps46
 go_wp2_with (at_make;refine wpList_make_full _ rfl _ _ 25 rfl w.heap.size 3 i0 (.int .i64 0) 1 underlying25 hi hz0 hz1 .i64 .i64 _ _ n rfl rfl rfl rfl ?b2 ?b3 ?b4 ?_)
 case b2=>rw[hz2];omega
 case b3=>unfold maxLen;omega
 case b4=>simp
 intro w1 hown hgr;have B1:=fi (k:=.i64) hown;have hb1:Below w.heap.size w w1:=(Below.refl _ _).grown hgr (Nat.le_refl _) (fun k h=>by cases h);rw[<-Eh n]at B1;have HL1:=ag B1;have HB1:=ag hb1
 clear hown hgr hb1 hi hz0 hz1 hz2 B1;obtain⟨gl,hgl⟩:∃gl,Hid (gl=w.heap.size):=⟨_,rfl⟩;rw[<-hgl.out]at HL1⊢;go_wp2
 go_loopw [9] (fun vi wr=>∃q:Nat,q<=n/\vi=.int .i64 q/\Hid (aa wr gl (vK .i64 (iy n q)) 3)/\Hid (Below w.heap.size w wr)) (fun vi _=>n-(intOf vi).toNat)
 case atStart=>exact⟨0,Nat.zero_le _,rfl,HL1,HB1⟩
 case round=>
  clear HL1 HB1;obtain⟨q,hq,rfl,HL,HB⟩:=hrel;have hgle:w.heap.size<=gl:=by have:=hgl.out;omega
  by_cases hlt:q<n
  .have hltz:(q:Int)<(n:Int):=by omega
   have n0:=HL.out.cell q (gE _ _ q (by rw[oJ];exact hlt));have f0:=HL.out.frozen q;have glt:gl<wr.heap.size:=HL.out.lt
   have HL1:Hid (aa (wr.setCell ⟨gl,q,none⟩ (.int .i64 (q:Nat))) gl (vK .i64 (iy n (q+1))) 3):=by
    have:=HL.out.set q (.int .i64 (q:Nat));rw[nI,Ei n q hlt]at this;exact this
   go_wp2;exact⟨⟨q+1,by omega,rfl,HL1,HB.out.setCell (by show w.heap.size<=gl;omega) _⟩,by simp only[intOf];omega⟩
  .obtain rfl:q=n:=by omega
   go_wp2;go_ret;exact⟨gl,rfl,by rw[<-Ej q];exact HL.out,by omega,HB.out⟩
theorem Ea(t:List Nat)(p l n g3 gx g5:Nat)(w:World)(hp:p<t.length)(hn:n=t.length)(hl:l<8)(hB:iR t)(h3:aa w g3 [.slice (some ⟨gx,0,none⟩) n n] 22)(hx:aa w gx (vK .u8 (Mx.txL t (l+1) 0)) 5)(h5:aa w g5 [.int .i64 (l:Int)] 3):
  Qq 50 #[.int .i64 (p:Nat),.pointer (some ⟨g3,0,none⟩),.pointer (some ⟨g5,0,none⟩)] w (.bool (Mx.tb l (gt t p))):=by
 have hpz:(p:Int)<(n:Int):=by omega
 have hg:=Mx.gt_txL (t:=t) l p hp
 have C:Hid (∀w0,Qx 25 #[.int .u8 (Mx.top (l+1) (gt t p):Nat),.int .i64 (l:Nat)] w0 (.bool (Mx.tb l (gt t p)))):=fun w0=>by
  have:=oA (Mx.top (l+1) (gt t p)) l (Mx.top_lt (hB p)) hl w0;rw[Mx.top_tb (hB p) hl]at this;exact this
 have HX:=ag (fun w0 (h:aa w0 gx (vK .u8 (Mx.txL t (l+1) 0)) 5)=>h.cell p (gE _ _ p (by rw[Mx.length_txL];exact hp)));rw[hg]at HX;have tl:=Mx.top_lt (l:=l+1) (hB p);generalize Mx.tb l (gt t p)=B at *
 generalize Mx.top (l+1) (gt t p)=TT at *;clear hg;go_enter func50,ntmps50;go_wp2
 refine ba [] (fun w'=>aa w' g3 [.slice (some ⟨gx,0,none⟩) n n] 22/\aa w' gx (vK .u8 (Mx.txL t (l+1) 0)) 5/\aa w' g5 [.int .i64 (l:Int)] 3/\Below w.heap.size w w') (by kernel_rfl) ?_
 have hS:(fun w'=>aa w' g3 [.slice (some ⟨gx,0,none⟩) n n] 22/\aa w' gx (vK .u8 (Mx.txL t (l+1) 0)) 5/\aa w' g5 [.int .i64 (l:Int)] 3/\Below w.heap.size w w') w.drew:=⟨h3.drew,hx.drew,h5.drew,(Below.refl _ _).drew⟩
 clear h3 hx h5;generalize w.drew=V at *;refine aF 0 hS rfl (fun w0 h0=>by have q0:=h0.1.cell 0 rfl;have q1:=HX.out w0 h0.2.1;have q2:=h0.2.2.1.cell 0 rfl;go_simp;try with_reducible rfl) ?_
 refine aK 1 hS ?_;refine aK 2 hS ?_;refine aF 3 hS rfl (fun w0 h0=>by have q0:=h0.1.cell 0 rfl;have q1:=HX.out w0 h0.2.1;have q2:=h0.2.2.1.cell 0 rfl;go_simp;try with_reducible rfl) ?_
 refine aF 4 hS rfl (fun w0 h0=>by have q0:=h0.1.cell 0 rfl;have q1:=HX.out w0 h0.2.1;have q2:=h0.2.2.1.cell 0 rfl;go_simp;try with_reducible rfl) ?_;refine aO 5 ?_;intro K hK;go_simp;refine mr (C.out _) fun w2 h2=>?_;rw[h2];clear h2;refine hK.out _ _ (fun _=>hS) ?_;clear hK K;try simp only[Act.put,ar,an,am,ah,aj,ai]
 refine aK 6 hS ?_;refine aw.done (by kernel_rfl) ?_ _;have HB:=ag hS.2.2.2;clear hS;go_wp2;go_ret;exact⟨rfl,HB.out⟩
theorem Ek(lo:Option Addr)(l:List Nat)(lc g0 g1:Nat)(f:Nat->Bool)(w:World)(hl:Nd w lo (mI l))(hn:l.length<=1048576)
  (HC:Hid (∀x w0,x∈l->Below w.heap.size w w0->Qq 50 #[.int .i64 (x:Nat),.pointer (some ⟨g0,0,none⟩),.pointer (some ⟨g1,0,none⟩)] w0 (.bool (f x)))):
  Calls prog 49 #[.slice lo l.length lc,.func (.func 50) #[] #[.pointer (some ⟨g0,0,none⟩),.pointer (some ⟨g1,0,none⟩)]] w fun e w'=>∃ao n cap,e=.returned (.tuple #[.slice ao n cap,.int .i64 ((fl f false l l.length).length:Nat)])/\n=(Mx.pt f l).length/\w'.ownsRow w.heap.size 3 1 (.slice ao n cap) n (vK .i64 (Mx.pt f l))/\Below w.heap.size w w':=by
 obtain⟨i0,hi,hz0,hz1,hz2⟩:=info_parts jL;have HN:=ag hl;clear hl;go_enter func49,ntmps49;go_wp2
 go_loopw [6,7,12] (fun vo vn vi wr=>∃q:Nat,q<=l.length/\vi=.int .i64 q/\Hid (PE 3 .i64 wr w.heap.size f l q vo vn)/\Hid (Below w.heap.size w wr)) (fun _ _ vi _=>l.length-(intOf vi).toNat)
 case atStart=>exact⟨0,Nat.zero_le _,rfl,ag ⟨World.ownsRow_nil _ _ _ _,World.ownsRow_nil _ _ _ _,fun k h=>by cases h⟩,ag (Below.refl _ _)⟩
 case round=>
  obtain⟨q,hq,rfl,HP,HB⟩:=hrel;by_cases hlt:q<l.length
  .have hltz:(q:Int)<(l.length:Int):=by omega
   obtain⟨b,off,rfl,hlb,hc⟩:=(HN.out.keep HB.out) (by rw[dt];omega);have a0:=hc q (by rw[dt];exact hlt);rw[iN l q hlt]at a0
   have hmem:gt l q∈l:=by unfold gt;rw[List.getD_eq_getElem?_getD,List.getElem?_eq_getElem hlt];exact List.getElem_mem hlt
   obtain⟨p,hp⟩:∃p,Hid (p=gt l q):=⟨_,rfl⟩;rw[<-hp.out]at a0 hmem;have H:=ag (HC.out p wr hmem HB.out);have zb:=HB.out.size;clear hc;go_wp2_with fail;refine H.out.mono ?_;rintro e w5 ⟨rfl,hb⟩
   have HP5:=ag (HP.out.keep hb);have HB5:=ag (bg HB.out hb);have z5:=hb.size;obtain⟨BB,hBB⟩:∃BB,Hid (f p=BB):=⟨_,rfl⟩;rw[hBB.out];clear hb HP HB H a0
   rcases(show BB=true\/BB=false by cases BB;exact .inr rfl;exact .inl rfl)with rfl | rfl
   .have HO:=ag HP5.out.o2
    go_wp2_with (at_builtin;refine Ag.wpList_append (by rfl) _ _ _ (by rfl) w.heap.size 3 i0 (.int .i64 0) 1 8 underlying25 hi hz0 hz1 hz2 rfl (by decide) u7 (fl f true l q).length (vK .i64 (fl f true l q)) (by rfl) (HO.out.alloc _) ⟨w5.heap.size,0,none⟩ 1 1 [.int .i64 (p:Nat)] (by rfl) rfl (by decide) ?c1 ?c2 ?c3 ?c4 ?c5 ?_)
    case c1=>
     intro j u hj;have:=(aa.new w5 [.int .i64 (p:Nat)] 3).cell j hj;match j,hj with
     | 0,_=>exact this
    case c2=>intro u hu;simp at hu;subst hu;rfl
    case c3=>have:=eQ f true l q;unfold maxLen;omega
    case c4=>have:=eQ f true l q;omega
    case c5=>simp;omega
    intro g8 cap8 w8 own8 hb8 hloc8 hlt8 hblk8 hs8;have hA:=below_alloc w5 (.cells #[.int .i64 (p:Nat)] 3);have HB8:Hid (Below w.heap.size w w8):=(bg HB5.out hA).trans (hb8.mono (by omega))
    have HP8:=ag (HP5.out.onn (g:=g8) (cap:=cap8) hlt hA own8 (fun k hk hn=>hblk8 k (by simpa using hk) hn) (by simpa using hloc8) hp.out hBB.out);clear own8 hb8 hloc8 hlt8 hblk8 hs8 hA HB5 HP5 HO hBB
    try simp only[Act.put,ah,List.set]
    go_wp2;exact⟨⟨q+1,by omega,by go_num,HP8,HB8⟩,by simp only[intOf];omega⟩
   .have HO:=ag HP5.out.o1
    go_wp2_with (at_builtin;refine Ag.wpList_append (by rfl) _ _ _ (by rfl) w.heap.size 3 i0 (.int .i64 0) 1 8 underlying25 hi hz0 hz1 hz2 rfl (by decide) u6 (fl f false l q).length (vK .i64 (fl f false l q)) (by rfl) (HO.out.alloc _) ⟨w5.heap.size,0,none⟩ 1 1 [.int .i64 (p:Nat)] (by rfl) rfl (by decide) ?c1 ?c2 ?c3 ?c4 ?c5 ?_)
    case c1=>
     intro j u hj;have:=(aa.new w5 [.int .i64 (p:Nat)] 3).cell j hj;match j,hj with
     | 0,_=>exact this
    case c2=>intro u hu;simp at hu;subst hu;rfl
    case c3=>have:=eQ f false l q;unfold maxLen;omega
    case c4=>have:=eQ f false l q;omega
    case c5=>simp;omega
    intro g8 cap8 w8 own8 hb8 hloc8 hlt8 hblk8 hs8;have hA:=below_alloc w5 (.cells #[.int .i64 (p:Nat)] 3);have HB8:Hid (Below w.heap.size w w8):=(bg HB5.out hA).trans (hb8.mono (by omega))
    have HP8:=ag (HP5.out.offf (g:=g8) (cap:=cap8) hlt hA own8 (fun k hk hn=>hblk8 k (by simpa using hk) hn) (by simpa using hloc8) hp.out hBB.out);clear own8 hb8 hloc8 hlt8 hblk8 hs8 hA HB5 HP5 HO hBB
    try simp only[Act.put,ah,List.set]
    go_wp2;exact⟨⟨q+1,by omega,by go_num,HP8,HB8⟩,by simp only[intOf];omega⟩
  .obtain rfl:q=l.length:=by omega
   have HO1:=ag HP.out.o1;have l1:=eQ f false l l.length;have l2:=eQ f true l l.length;obtain⟨xa,c,rfl,hsrc⟩:=lr HP.out.o2 (jj _ _).symm
   obtain⟨ya,yc,rfl,_⟩:=lr HP.out.o1 (jj _ _).symm;have HS:=ag hsrc;have zb:=HB.out.size;clear hsrc HP
   go_wp2_with (at_builtin;refine qz (by rfl) _ _ _ (by rfl) w.heap.size 3 i0 (.int .i64 0) 1 8 underlying25 hi hz0 hz1 hz2 rfl (by decide) _ (fl f false l l.length).length (vK .i64 (fl f false l l.length)) (by rfl) HO1.out xa (fl f true l l.length).length c (vK .i64 (fl f true l l.length)) (by rfl) (by rw[jj,Nat.mul_one]) HS.out ?c2 ?c3 ?c4 ?c5 ?_)
   case c2=>intro u hu;unfold vK at hu;obtain⟨_,_,rfl⟩:=List.mem_map.1 hu;rfl
   case c3=>unfold maxLen;omega
   case c4=>omega
   case c5=>omega
   intro ao cap w8 own8 hb8 _ _;try simp only[Act.put,ah,List.set]
   have eP:Mx.pt f l=fl f false l l.length++fl f true l l.length:=by unfold Mx.pt fl;rw[List.take_length]
   have HF:Hid ((fl f false l l.length).length+(fl f true l l.length).length=(Mx.pt f l).length/\w8.ownsRow w.heap.size 3 1 (.slice ao ((fl f false l l.length).length+(fl f true l l.length).length) cap) ((fl f false l l.length).length+(fl f true l l.length).length) (vK .i64 (Mx.pt f l))/\Below w.heap.size w w8):=by
    refine⟨by rw[eP,List.length_append],?_,HB.out.trans (hb8.mono (Nat.le_refl _))⟩;rw[eP,ia];exact own8
   clear own8 hb8 HO1 HS HB eP;go_wp2;go_ret2;exact⟨ao,_,cap,rfl,HF.out⟩
end Go.Proofs.YtleegaihbgbcjabGreatDoor
