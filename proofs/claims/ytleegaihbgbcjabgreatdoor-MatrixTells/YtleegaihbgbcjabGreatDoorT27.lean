import Derived.Test.YtleegaihbgbcjabGreatDoorT26
set_option linter.unusedVariables false
set_option linter.unusedSimpArgs false
set_option maxRecDepth 100000
set_option maxHeartbeats 16000000
open Go.Proofs.Tryz
namespace Go.Proofs.YtleegaihbgbcjabGreatDoor
open Go.RowKit Num Bit
theorem ES{ops:Array Oper}{rest:List Oper}{d:Option Tmp}{ty T:TypeId}{ps:String}{af:Array Edge}{a:Act}{w:World}{Q:Exit->Act->World->Prop}(z:List Value)
  (hz:(prog.info? T).map (fun i=>(i.zero,i.size))=some (some (.agg z.toArray),z.length))
  (h:∀w1,aa w1 w.heap.size z T->Below w.heap.size w w1->w.heap.size<w1.heap.size->wpList prog ops Q rest (a.put d (.pointer (some ⟨w.heap.size,0,none⟩))) w1):
  wpList prog ops Q (⟨d,.alloc T,ty,ps,af,none⟩::rest) a w:=by
 refine wpList_plain rfl fun K hK=>?_;unfold Oper.wp execOp;have zz:=(zero_of_info hz).1;have nw:=h _ (aa.new w _ _) (below_alloc w _) (by simp);refine cast ?_ (hK _ _ nw)
 simp[Instr.alloc,Sem.run_bind,zz,newVar,Value.cells,go_sem]
theorem zd{ops:Array Oper}{o:Oper}{a:Act}{w:World}{K:Act->World->Prop}{Q:Exit->Act->World->Prop}{E:Prop}(hgd:o.guard=none)(s x:Operand)
  (ho:o.op=.call { callee:=.builtin .append,args:=#[s,x],argTypes:=#[25,25] })
  (v:Value) (l:List Nat) (hs:a.eval s=v) (h:ZO w v l) (z:Nat) (ad:Addr) (c0:Nat) (hx:a.eval x=.slice (some ad) 1 c0) (hn:w.cell? (ad.add 0)=some (.int .i64 (z:Nat))) (h8:l.length<1000000)
  (k:∀v' w',ZO w' v' (l++[z])->Tz w w' v l->(∀g,v'.ownBlock=some g->v.ownBlock=some g\/g=w.heap.size)->K (a.put o.dst v') w'):
  if Region.wanted o (yielded ops a.tmps)=true then Oper.wp prog o a w K Q else E:=by
 rw[if_pos (by simp[Region.wanted,hgd])];exact yh s x ho v l hs h z ad c0 hx hn h8 k
theorem yR(k:IntKind)(l:List Nat)(i:Nat)(h:i<l.length):vK k (l.take i)++[.int k (gt l i:Nat)]=vK k (l.take (i+1)):=by
 have e:gt l i=l[i]:=by unfold gt;rw[List.getD_eq_getElem?_getD,List.getElem?_eq_getElem h];rfl
 rw[List.take_succ_eq_append_getElem h,ia,e];rfl
theorem Jr(l:List Bool)(i:Nat)(b:Bool)(h:l[i]?=some b):(l.take i).map Value.bool++[.bool b]=(l.take (i+1)).map Value.bool:=by
 obtain⟨hi,rfl⟩:=List.getElem?_eq_some_iff.1 h;rw[List.take_succ_eq_append_getElem hi,List.map_append];rfl
theorem jJ{w w':World}{base e n g0:Nat}{v:Value}{vs gs:List Value}{T:TypeId}(h:w.ownsRow base e 1 v n vs)(hc:aa w g0 gs T)(hT:T≠e)(hO:aB g0 w w'):w'.ownsRow base e 1 v n vs:=by
 refine Ap.owns_other (u:=.slice (some ⟨g0,0,none⟩) 0 0) h (fun k hk hne=>hO.block k fun q=>hne (by rw[q];rfl)) fun k hk hu=>?_;injection hu with hu
 subst hu;obtain⟨_,⟨e1,_⟩ | ⟨g,cap,cur,e1,_,hh,_⟩⟩:=h
 .rw[e1]at hk;cases hk
 .rw[e1]at hk;injection hk with hk
  subst hk;unfold aa at hc;rw[hc]at hh;injection hh with hh
  injection hh with _ hh
  exact hT hh
theorem uw{w w':World}{base e n:Nat}{v u:Value}{vs:List Value}{css:List (List Value)}(h:w.ownsRow base e 1 v n vs)(he:e≠63)(hT:Tn w w' u css):w'.ownsRow base e 1 v n vs:=by
 rcases hT with⟨g,cap,_,e1,e2⟩ | hb
 .exact jJ h e1 (fun q=>he q.symm) e2
 .exact Ap.owns_below h hb
theorem Dj{w w':World}{base e n:Nat}{v u:Value}{vs:List Value}{l:List Nat}(h:w.ownsRow base e 1 v n vs)(he:e≠3)(hT:Tz w w' u l):w'.ownsRow base e 1 v n vs:=by
 rcases hT with⟨g,cap,_,e1,e2⟩ | hb
 .exact jJ h e1 (fun q=>he q.symm) e2
 .exact Ap.owns_below h hb
theorem Dk{w w':World}{base e n:Nat}{v u:Value}{vs:List Value}{l:List Nat}(h:w.ownsRow base e 1 v n vs)(ha:Ap.Apart v u)(hT:Tz w w' u l):w'.ownsRow base e 1 v n vs:=by
 rcases hT with⟨g,cap,rfl,e1,e2⟩ | hb
 .exact Ap.owns_other h (fun k hk hne=>e2.block k fun q=>hne (by rw[q];rfl)) ha
 .exact Ap.owns_below h hb
theorem JZ{w:World}{base e n:Nat}{v u u2:Value}{vs:List Value}(h:w.ownsRow base e 1 v n vs)(ha:Ap.Apart v u)(hv:∀g,u2.ownBlock=some g->u.ownBlock=some g\/g=w.heap.size):Ap.Apart v u2:=fun k hk hu=>by
 rcases hv k hu with e1 | rfl
 .exact ha k hk e1
 .obtain⟨_,_,_,_,hh⟩:=Ap.owns_shape h;exact absurd (hh _ hk).2 (Nat.lt_irrefl _)
def mbE(k:Int):Int:=if 1<=k/\k<=3 then 0 else 5
def eI(k:Int)(t:List Nat):MR:=if mbE k=0 then mRx k t else ⟨0,0,[],[]⟩
theorem FM(k:Int){t:List Nat}(hn:t.length<=3000)(l:Nat):kE k (t.length:Int) (aC (Mx.rw_ t l))=mbE k:=by
 unfold mbE;by_cases c:1<=k/\k<=3
 .rw[if_pos c];exact oN k _ _ c.1 c.2 (mj hn l)
 .rw[if_neg c];unfold kE;rw[if_neg (by omega),if_neg (by omega),if_neg (by omega)]
theorem Dx{t:List Nat}(hn:t.length<=3000)(l:Nat):onesI (t.length:Int) (aC (Mx.rw_ t l)) (t.length:Int)=((t.length-Mx.zs t l:Nat):Int):=by
 unfold onesI;have h1:=rF (Mx.rw_ t l) t.length (by rw[Mx.length_rw];exact Nat.le_refl _);have h2:=rH (Mx.rw_ t l) t.length (by rw[Mx.length_rw];exact Nat.le_refl _)
 have e:Mx.zs t l=Sh.ct false (Mx.rw_ t l) t.length:=by unfold Mx.zs;rw[Mx.length_rw]
 rw[mj hn l,show min (t.length:Int) (t.length:Int)=(t.length:Int)by omega,Int.toNat_natCast,h2,e];simp;omega
theorem xV(t:List Nat)(q:Nat):(List.range q).map (Mx.zs t)++[Mx.zs t q]=(List.range (q+1)).map (Mx.zs t):=by
 rw[List.range_succ,List.map_append];rfl
theorem yS(c l:Nat):c/2^(7-l)%2=(Mx.tb l c).toNat:=by
 unfold Mx.tb;rw[Nat.testBit_eq_decide_div_mod_eq];have:=Nat.mod_two_eq_zero_or_one (c/2^(7-l));rcases this with h | h<;>simp[h]
theorem zN(a b:Nat):(a:Int)/2^b=((a/2^b:Nat):Int):=by
 rw[Int.natCast_ediv,Int.natCast_pow];rfl
theorem AE(k:Int)(ao:Option Addr)(t:List Nat)(cap:Nat)(w:World)(hK:aD k)(hx:Bd w ao t)(hB:iR t)(hn:t.length<=3000)(G:GV w):
  Calls prog 11 #[.int .i64 k,.slice ao t.length cap] w fun e w'=>∃lo lc zo zc,e=.returned (.tuple #[.agg #[.int .i64 (eI k t).K,.int .i64 (eI k t).N,.slice lo (eI k t).av.length lc,.slice zo (eI k t).zs.length zc],.int .i64 (mbE k)])/\MI w' lo lc zo zc (eI k t)/\Below w.heap.size w w':=by
 obtain⟨i4,hi4,za4,zb4,zc4⟩:=info_parts Tryz.info4;obtain⟨i3,hi3,za3,zb3,zc3⟩:=info_parts jL;have HG:=ag G;have HX:=ag hx
 have FR:Hid (∀w0 q a9 c9,Bl w0 a9 (Mx.rw_ t q)->Calls prog 33 #[.slice a9 t.length c9] w0 fun e w'=>∃bo dap,e=.returned (.tuple #[.agg #[.int .i64 t.length,.slice bo (aC (Mx.rw_ t q)).length dap],.int .i64 0])/\Wd w' bo (aC (Mx.rw_ t q))/\(aC (Mx.rw_ t q)).length<=dap/\Below w0.heap.size w0 w'):=fun w0 q a9 c9 hc=>by
  have:=A_ a9 (Mx.rw_ t q) c9 w0 hc (by rw[Mx.length_rw];omega);rw[Mx.length_rw]at this;refine this.mono ?_;rintro e w' ⟨bo,dap,rfl,h1,h2,h3,h4⟩;exact⟨bo,dap,rfl,h1,h3,h4⟩
 have BK:Hid (∀w0 q bo dap,Below w.heap.size w w0->Wd w0 bo (aC (Mx.rw_ t q))->(aC (Mx.rw_ t q)).length<=dap->Calls prog 34 #[.int .i64 k,.agg #[.int .i64 t.length,.slice bo (aC (Mx.rw_ t q)).length dap]] w0 fun e w'=>∃cs:List Value,e=.returned (.tuple #[.agg cs.toArray,.int .i64 (mbE k)])/\KI w' cs (kB k (t.length:Int) (aC (Mx.rw_ t q)))/\Below w0.heap.size w0 w'/\fm w0.heap.size cs):=fun w0 q bo dap hb h1 h2=>by
  have:=yH k (t.length:Int) bo (aC (Mx.rw_ t q)) dap w0 hK ⟨by omega,by omega⟩ h1 (cY _ _) h2 ⟨by omega,by unfold aC;rw[cM,Mx.length_rw];omega⟩ (HG.out.keep hb);rw[FM k hn q]at this
  exact this
 have ON:Hid (∀w0 q bo dap,Wd w0 bo (aC (Mx.rw_ t q))->Qq 35 #[.agg #[.int .i64 t.length,.slice bo (aC (Mx.rw_ t q)).length dap],.int .i64 (t.length:Nat)] w0 (.int .i64 ((t.length-Mx.zs t q:Nat):Int))):=fun w0 q bo dap h1=>by
  have:=qa (t.length:Int) bo (aC (Mx.rw_ t q)) dap (t.length:Int) w0 h1 (cY _ _);rw[Dx hn q]at this;exact this
 have PT:Hid (∀w0 q oo oc a9 c9,Nd w0 oo (mI (Mx.sy t q))->Bl w0 a9 (Mx.rw_ t q)->Calls prog 36 #[.slice oo t.length oc,.slice a9 t.length c9] w0 fun e w'=>∃o2 c2,e=.returned (.slice o2 t.length c2)/\w'.ownsRow w0.heap.size 3 1 (.slice o2 t.length c2) t.length (vK .i64 (Mx.sy t (q+1)))/\Below w0.heap.size w0 w'):=fun w0 q oo oc a9 c9 h1 h2=>by
  rw[Mx.rw_sy]at h2;have:=tF oo (Mx.sy t q) oc a9 c9 (Mx.tb q) w0 h1 h2 (by rw[Mx.length_sy];omega);rw[Mx.length_sy,<-Mx.sy_succ,Mx.length_sy]at this;refine this.mono ?_;rintro e w' ⟨o2,n2,c2,rfl,rfl,h3,h4⟩
  exact⟨o2,c2,rfl,h3,h4⟩
 have SY:Hid (∀q i,i<t.length->gt (Mx.sy t q) i<256/\(Mx.rw_ t q)[i]?=some (Mx.tb q (gt (Mx.sy t q) i))):=fun q i hi=>by
  refine⟨Mx.byt_sy hB q i,?_⟩;rw[Mx.rw_sy,List.getElem?_map,List.getElem?_eq_getElem (by rw[Mx.length_sy];exact hi)];unfold gt;rw[List.getD_eq_getElem?_getD,List.getElem?_eq_getElem (by rw[Mx.length_sy];exact hi)];rfl
 have ZL:Hid (∀q,Mx.zs t q<=t.length):=Mx.zs_le t;have LS:Hid (∀q,(Mx.sy t q).length=t.length):=Mx.length_sy t;have LR:Hid (∀q,(Mx.rw_ t q).length=t.length):=Mx.length_rw t
 have LT:Hid ((vK .i64 (t.take t.length))=vK .i64 (Mx.sy t 0)):=by show _=_;rw[List.take_length,Mx.sy_zero]
 have TS:Hid (∀i,i<t.length->vK .i64 (t.take i)++[.int .i64 (gt t i:Nat)]=vK .i64 (t.take (i+1))):=yR .i64 t;obtain⟨n,hnn⟩:∃n,Hid (n=t.length):=⟨_,rfl⟩
 have hn2:n<=3000:=by rw[hnn.out];exact hn
 have HBt:=ag hB;rw[<-hnn.out]at FR BK ON PT SY ZL LS LR LT TS⊢;obtain⟨E,hE⟩:∃E,Hid (E=mbE k):=⟨_,rfl⟩;rw[<-hE.out]at BK⊢
 have KK:Hid (∀q,q<8->kB k (t.length:Int) (aC (Mx.rw_ t q))=(mA k t).getD q ra0):=fun q hq=>(lI k t hq).symm;rw[<-hnn.out]at KK;clear hn hx hB G;have n1:¬(n:Int)>8192:=by omega
 have n1':¬(8192:Int)<(n:Int):=by omega
 have c4:=(aa.new w [.int .i64 0,.int .i64 0,.slice none 0 0,.slice none 0 0] 27).alloc (.cells [.int .i64 k,.int .i64 (n:Int),.slice none 0 0,.slice none 0 0].toArray 27)
 have c6:=aa.new2 w (.cells [.int .i64 0,.int .i64 0,.slice none 0 0,.slice none 0 0].toArray 27) [.int .i64 k,.int .i64 (n:Int),.slice none 0 0,.slice none 0 0] 27
 have bA:Below w.heap.size w ((w.alloc (.cells [.int .i64 0,.int .i64 0,.slice none 0 0,.slice none 0 0].toArray 27)).alloc (.cells [.int .i64 k,.int .i64 (n:Int),.slice none 0 0,.slice none 0 0].toArray 27)):=(below_alloc w _).alloc (by simp) _
 go_enter func11,ntmps11;go_wp2
 go_loopw [8,7] (fun s v wr=>∃i:Nat,i<=n/\s=.int .i64 i/\wr.ownsRow (w.heap.size+2) 3 1 v i (vK .i64 (t.take i))/\aa wr (w.heap.size+1) [.int .i64 k,.int .i64 (n:Int),.slice none 0 0,.slice none 0 0] 27/\aa wr w.heap.size [.int .i64 0,.int .i64 0,.slice none 0 0,.slice none 0 0] 27/\Below w.heap.size w wr) (fun s _ _=>n-(intOf s).toNat)
 case atStart=>exact⟨0,Nat.zero_le _,rfl,World.ownsRow_nil _ _ _ _,c6,c4,bA⟩
 case round=>
  obtain⟨i,hin,rfl,own7,h6,h4,hb⟩:=hrel;clear c6 c4 bA;obtain⟨a7,c7,rfl,hc7, -⟩:=Ap.owns_shape own7;by_cases hlt:i<n
  .have hlt2:(i:Int)<(n:Int):=by omega
   obtain⟨xb,xo,rfl,hxb,hxc⟩:=(HX.out.keep hb) (by rw[<-hnn.out];omega);have e2:=hxc i (by rw[<-hnn.out];exact hlt);have hc:=HBt.out i;have ts:=ag (TS.out i hlt);generalize gt t i=C at *;clear hxc
   have bB:=below_alloc wr (.cells #[.int .i64 (C:Int)] 3);have own3:=Ap.owns_below own7 bB
   have src3:(wr.alloc (.cells #[.int .i64 (C:Int)] 3)).cell? ⟨wr.heap.size,0,none⟩=some (.int .i64 (C:Int)):=(aa.new wr [.int .i64 (C:Int)] 3).cell 0 rfl;have hb3:=bg hb bB
   have g3:w.heap.size+2<=(wr.alloc (.cells #[.int .i64 (C:Int)] 3)).heap.size:=by have:=h6.lt;have:=bB.size;omega
   have H6:=ag (And.intro (h6.kept bB) (h4.kept bB));clear bB own7 hb h6 h4;generalize vK .i64 (t.take i)=L7 at *
   go_wp2_with (at_builtin;refine Ap.wpList_append_u rfl _ _ 25 rfl (w.heap.size+2) 3 i3 (.int .i64 0) 8 underlying25 hi3 za3 zb3 zc3 rfl (.slice a7 i c7) i L7 rfl own3 (some ⟨wr.heap.size,0,none⟩) 1 1 [.int .i64 (C:Int)] rfl rfl ?d1 ?d2 ?d3 ?d4 ?d5 ?_)
   case d1=>exact fun _=>⟨_,rfl,fun j u hj=>by
    match j,hj with
    | 0,hj=>simp at hj;subst hj;exact src3⟩
   case d2=>intro u hu;simp at hu;subst hu;rfl
   case d3=>unfold maxLen;omega
   case d4=>omega
   case d5=>exact g3
   intro so sc w4 own4 hle4 hB4;have HO:=ag (And.intro own4 (And.intro (H6.out.1.keep hB4 (by omega)) (And.intro (H6.out.2.keep hB4 (by omega)) (hb3.trans (hB4.mono (by omega))))));clear own4 own3 hB4 hb3 src3 g3 H6;go_wp2
   refine⟨⟨i+1,by omega,by go_num,?_,HO.out.2⟩,by simp only[intOf];omega⟩;rw[<-ts.out];exact HO.out.1
  .obtain rfl:i=n:=by omega
   rw[LT.out]at own7;have H3:=ag (And.intro own7 (And.intro h6 (And.intro h4 hb)));clear own7 h6 h4 hb TS LT HX HBt;go_wp2
   go_loopw [9,7] (fun s v wr=>∃(q:Nat) (css:List (List Value)) (vL vZ:Value) (oo:Option Addr) (oc B:Nat),q<=8/\s=.int .i64 q/\v=.slice oo i oc/\Hid (css.length=q)/\Hid (0<q->E=0)/\Hid (∀gg,vL.ownBlock=some gg->w.heap.size<=gg)/\Hid (∀gg,vZ.ownBlock=some gg->w.heap.size<=gg)/\Hid (fF (w.heap.size+1) wr vL vZ (fun j=>(mA k t).getD j ra0) css)/\Hid (wr.ownsRow B 3 1 (.slice oo i oc) i (vK .i64 (Mx.sy t q)))/\Hid (ZO wr vZ ((List.range q).map (Mx.zs t)))/\Hid (Ap.Apart (.slice oo i oc) vZ)/\Hid (aa wr (w.heap.size+1) [.int .i64 k,.int .i64 (i:Int),vL,vZ] 27)/\Hid (aa wr w.heap.size [.int .i64 0,.int .i64 0,.slice none 0 0,.slice none 0 0] 27)/\Hid (Below w.heap.size w wr)) (fun s _ _=>8-(intOf s).toNat)
   case atStart=>exact⟨0,[],.slice none 0 0,.slice none 0 0,a7,c7,_,Nat.zero_le _,rfl,rfl,ag rfl,ag (fun h=>absurd h (by decide)),ag (fun gg h=>by cases h),ag (fun gg h=>by cases h),ag (fF.nil _ _ _),ag H3.out.1,ag (.inl ⟨rfl,rfl⟩),ag (Ap.apart_nil _),ag H3.out.2.1,ag H3.out.2.2.1,ag H3.out.2.2.2⟩
   case round=>
    obtain⟨q,css,vL,vZ,oo,oc,B,hq,rfl,rfl,hl,h0,hvL,hvZ,HR,HO7,HZ,HA,H6,H4,HB⟩:=hrel;clear H3;by_cases hi:q<8
    .have hi2:(q:Int)<8:=by omega
     obtain⟨kk,hk⟩:∃kk,7-q=kk:=⟨_,rfl⟩;have mk:IntKind.i64.wrap (7-(q:Int))=(kk:Int):=by rw[IntKind.wrap_i64];omega
     have hk0:(0:Int)<=(kk:Int):=by omega
     have hk8:(kk:Int)<8:=by omega
     obtain⟨w2,rfl⟩:∃w2,w2=wr:=⟨_,rfl⟩;go_wp2
     go_loopw [11,10] (fun s v10 wr=>∃j:Nat,j<=i/\s=.int .i64 j/\wr.ownsRow w2.heap.size 4 1 v10 j (((Mx.rw_ t q).take j).map .bool)/\Below w2.heap.size w2 wr) (fun s _ _=>i-(intOf s).toNat)
     case atStart=>exact⟨0,Nat.zero_le _,rfl,World.ownsRow_nil _ _ _ _,Below.refl _ _⟩
     case round=>
      obtain⟨j,hji,rfl,own9,jb⟩:=hrel;obtain⟨a9,c9,rfl,hc9, -⟩:=Ap.owns_shape own9;by_cases hlt:j<i
      .have hlt2:(j:Int)<(i:Int):=by omega
       obtain⟨ob,of_,rfl,hob,hoc⟩:=((mM HO7.out (LS.out q).symm).keep jb) (by rw[dt,LS.out];omega);have e2:=hoc j (by rw[dt,LS.out];exact hlt);rw[iN _ _ (by rw[LS.out];exact hlt)]at e2
       obtain⟨hc,hr⟩:=SY.out q j hlt;have tr:=yS (gt (Mx.sy t q) j) q;rw[hk]at tr;have bs:=ag (Jr (Mx.rw_ t q) j _ hr);generalize gt (Mx.sy t q) j=C at *;generalize Mx.tb q C=R at *
       have sc:(C:Int)/2^kk=((C/2^kk:Nat):Int):=zN C kk;obtain⟨Y,hY⟩:∃Y,C/2^kk=Y:=⟨_,rfl⟩;rw[hY]at sc tr
       have yb:Y<256:=by rw[<-hY];exact Nat.lt_of_le_of_lt (Nat.div_le_self _ _) hc
       have tr2:((Y:Int)).tmod 2=((R.toNat:Nat):Int):=by rw[Int.tmod_eq_emod_of_nonneg (by omega)];omega
       have tr4:(((R.toNat:Nat):Int)==1)=R:=by cases R<;>rfl
       clear hoc hr hY hk tr;have bA:=below_alloc wr (.cells #[.bool R] 4);have own3:=Ap.owns_below own9 bA
       have src3:(wr.alloc (.cells #[.bool R] 4)).cell? ⟨wr.heap.size,0,none⟩=some (.bool R):=(aa.new wr [.bool R] 4).cell 0 rfl;have jb3:=bg jb bA
       have g3:w2.heap.size<=(wr.alloc (.cells #[.bool R] 4)).heap.size:=jb3.size;clear bA own9 jb;generalize ((Mx.rw_ t q).take j).map Value.bool=L9 at *
       go_wp2_with (at_builtin;refine Ap.wpList_append_u rfl _ _ 73 rfl w2.heap.size 4 i4 (.bool false) 1 underlying73 hi4 za4 zb4 zc4 rfl (.slice a9 j c9) j L9 rfl own3 (some ⟨wr.heap.size,0,none⟩) 1 1 [.bool R] rfl rfl ?d1 ?d2 ?d3 ?d4 ?d5 ?_)
       case d1=>exact fun _=>⟨_,rfl,fun j u hj=>by
        match j,hj with
        | 0,hj=>simp at hj;subst hj;exact src3⟩
       case d2=>intro u hu;simp at hu;subst hu;rfl
       case d3=>unfold maxLen;omega
       case d4=>omega
       case d5=>exact g3
       intro so sc' w4 own4 hle4 hB4;have HO:=ag (And.intro own4 (jb3.trans hB4));clear own4 own3 hB4 jb3 src3 g3;go_wp2;refine⟨⟨j+1,by omega,by go_num,?_,HO.out.2⟩,by simp only[intOf];omega⟩;rw[<-bs.out]
       exact HO.out.1
      .obtain rfl:j=i:=by omega
       have eT:(Mx.rw_ t q).take j=Mx.rw_ t q:=List.take_of_length_le (by rw[LR.out];exact Nat.le_refl _);rw[eT]at own9;replace HR:=ag (HR.out.keep jb);replace HO7:=ag (Ap.owns_below HO7.out jb)
       replace HZ:=ag (HZ.out.keep jb);replace H6:=ag (H6.out.kept jb);replace H4:=ag (H4.out.kept jb);replace HB:=ag (bg HB.out jb);have H9:=ag own9
       obtain⟨m,hm⟩:∃m,Hid (m=(aC (Mx.rw_ t q)).length):=⟨_,rfl⟩;have FR1:=ag (fun w0 a9 c9 h1=>FR.out w0 q a9 c9 h1);have BK1:=ag (fun w0 bo dap hb h1 h2=>BK.out w0 q bo dap hb h1 h2)
       have ON1:=ag (fun w0 bo dap h1=>ON.out w0 q bo dap h1);have PT1:=ag (fun w0 oo oc a9 c9 h1 h2=>PT.out w0 q oo oc a9 c9 h1 h2);rw[<-hm.out]at FR1 BK1 ON1;clear own9 jb eT hk FR BK ON PT SY mk hk0 hk8
       go_wp2_with fail;refine(FR1.out _ _ _ (py H9.out (LR.out q).symm)).mono ?_;rintro e w3 ⟨bo,dap,rfl,x1,x2,hb3⟩;replace HR:=ag (HR.out.keep hb3);replace HO7:=ag (Ap.owns_below HO7.out hb3)
       replace H9:=ag (Ap.owns_below H9.out hb3);replace HZ:=ag (HZ.out.keep hb3);replace H6:=ag (H6.out.kept hb3);replace H4:=ag (H4.out.kept hb3);replace HB:=ag (bg HB.out hb3)
       clear hb3 FR1;have b4:=below_alloc w3 (.cells #[.int .i64 (j:Int),.slice bo m dap] 53);have C12:=ag (aa.new w3 [.int .i64 (j:Int),.slice bo m dap] 53);replace HR:=ag (HR.out.keep b4)
       replace HO7:=ag (Ap.owns_below HO7.out b4);replace H9:=ag (Ap.owns_below H9.out b4);replace HZ:=ag (HZ.out.keep b4);replace H6:=ag (H6.out.kept b4);replace H4:=ag (H4.out.kept b4)
       replace x1:=x1.keep b4;replace HB:=ag (bg HB.out b4);clear b4;have y0:=C12.out.cell 0 rfl;have y1:=C12.out.cell 1 rfl;go_wp2_with fail;refine(BK1.out _ bo dap HB.out x1 x2).mono ?_
       rintro e w5 ⟨cs,rfl,hki,hb5,nf⟩
       have LL:Hid (((∀gg,vL.ownBlock=some gg->NE gg cs)/\∀g0,g0<=w.heap.size+1->NE g0 cs)/\∀gg,vZ.ownBlock=some gg->NE gg cs):=by
        refine⟨⟨fun gg hg=>nf.ne ?_,fun g0 hg0=>nf.ne (by have:=H6.out.lt;omega)⟩,fun gg hg=>nf.ne (HZ.out.lt hg)⟩;rcases HR.out.r.lo with⟨rfl,_⟩ | ⟨g',cp,rfl,_,ce⟩
        .cases hg
        .injection hg with e
         have:=ce.lt;rw[<-e];exact this
       replace HR:=ag (HR.out.keep hb5);replace HO7:=ag (Ap.owns_below HO7.out hb5);replace H9:=ag (Ap.owns_below H9.out hb5);replace HZ:=ag (HZ.out.keep hb5);replace H6:=ag (H6.out.kept hb5)
       replace H4:=ag (H4.out.kept hb5);replace C12:=ag (C12.out.kept hb5);have X1:=ag (x1.keep hb5);replace HB:=ag (bg HB.out hb5);clear hb5 BK1 x1 nf y0 y1;have HL:=ag hki.arg.len
       have H1:=ag hki.arg.one;have H22:=ag (lQ.trans hki.arg.nine);have HKI:=ag hki;clear hki;have l4:w.heap.size<w5.heap.size:=H4.out.lt;have l6:w.heap.size+1<w5.heap.size:=H6.out.lt
       go_wp2_with (refine ES zv mY ?_);intro w6 c13 b6 s6;go_wp2_with (refine aJ w5.heap.size zv cs rfl rfl c13 H22.out HL.out H1.out ?_);intro w7 c13 o7
       have b7:Below w5.heap.size w5 w7:=b6.trans (o7.below (Nat.le_refl _));replace HR:=ag (HR.out.keep b7);replace HO7:=ag (Ap.owns_below HO7.out b7);replace H9:=ag (Ap.owns_below H9.out b7)
       replace HZ:=ag (HZ.out.keep b7);replace H6:=ag (H6.out.kept b7);replace H4:=ag (H4.out.kept b7);replace C12:=ag (C12.out.kept b7);replace X1:=ag (X1.out.keep b7)
       replace HKI:=ag (HKI.out.keep b7);replace HB:=ag (bg HB.out b7);have l7:w5.heap.size<=w7.heap.size:=b7.size;clear b6 s6 o7 b7;generalize w5.heap.size=g13 at *;by_cases z:E=0
       .subst z;have ncs:cs.length=22:=HKI.out.arg.nine.symm
        have H11:Hid (∀u∈cs,u.oneCell'=true):=fun u hu=>by
         have:=H1.out;rw[List.all_toArray,List.all_eq_true]at this;exact this u hu
        obtain⟨g12,hg12⟩:∃g12,g12=w3.heap.size:=⟨_,rfl⟩;rw[<-hg12]at C12;have e12:=hg12.symm;have x2:=H6.out.cell 2 rfl;have fz:=H6.out.frozen 2;have hbn:=below_alloc w7 (.cells cs.toArray 63)
        have cA:=aa.new w7 cs 63;have HRA:=ag (HR.out.keep hbn);have HO7A:=ag (Ap.owns_below HO7.out hbn);have H9A:=ag (Ap.owns_below H9.out hbn);have HZA:=ag (HZ.out.keep hbn)
        have H6A:=ag (H6.out.kept hbn);have H4A:=ag (H4.out.kept hbn);have C12A:=ag (C12.out.kept hbn);have X1A:=ag (X1.out.keep hbn);have HKA:=ag (HKI.out.keep hbn)
        have HBA:=ag (bg HB.out hbn);have HN:=ag ncs;have lA:w.heap.size+1<(w7.alloc (.cells cs.toArray 63)).heap.size:=H6A.out.lt;have l67:w.heap.size+1<w7.heap.size:=H6.out.lt
        have HL22:=ag HRA.out.r.l22;clear hbn ncs HR HO7 H9 HZ H6 H4 C12 X1 HKI HB hg12
        go_wp2_with (first | refine bE g13 cs (by rfl) rfl c13 underlying63 HL.out ?_ | refine Ja cs HN.out rfl ?_ | (at_builtin;refine yq rfl _ _ rfl vL css rfl HRA.out.r.lo HL22.out cs HN.out ⟨w7.heap.size,0,none⟩ 1 rfl ?n1 H11.out (by rw[hl.out];omega) ?_))
        intro v' w8 hLO hTn hv
        have hv2:∀gg,v'.ownBlock=some gg->vL.ownBlock=some gg\/gg=(w7.alloc (.cells cs.toArray 63)).heap.size:=fun gg hg=>by
         rw[show(w7.alloc (.cells cs.toArray 63)).heap.size=w7.heap.size+1 by simp];exact hv gg hg
        clear hv
        obtain⟨g',cp',ev⟩:∃g' cp',v'=.slice (some ⟨g',0,none⟩) (q+1) cp':=by
         rcases hLO with⟨_,e⟩ | ⟨g',cp',e1,_,_⟩
         .simp at e
         .refine⟨g',cp',?_⟩;rw[e1,List.length_append,hl.out];rfl
        obtain⟨zo,zc,ez0⟩:=HZA.out.len;have ez:=ag ez0;clear ez0;have hb8:Below w.heap.size w w8:=HBA.out.trans (hTn.below hvL.out HBA.out.size)
        have hR8:=HRA.out.push (by show KI _ cs ((mA k t).getD css.length ra0);rw[hl.out,<-KK.out q hi];exact HKA.out) LL.out.1 LL.out.2 hLO hTn hv2 (HG.out.keep hb8);have h68:=hTn.cel H6A.out (by decide)
        have h48:=hTn.cel H4A.out (by decide);have c128:=hTn.cel C12A.out (by decide);have own78:=uw HO7A.out (by decide) hTn;have own98:=uw H9A.out (by decide) hTn;have hz8:=HZA.out.tn hTn
        have x18:Wd w8 bo (aC (Mx.rw_ t q)):=by
         rcases hTn with⟨g,cap,_,e1,e2⟩ | hb
         .exact e2.wd X1A.out (X1A.out.apart e1 (uG HRA.out.r _))
         .exact X1A.out.keep hb
        have HVL:Hid (∀gg,v'.ownBlock=some gg->w.heap.size<=gg):=fun gg hg=>by
         rcases hv2 gg hg with e | rfl
         .exact hvL.out gg e
         .exact HBA.out.size
        have nv:bT [.int .i64 k,.int .i64 (j:Int),vL,vZ]:=fun u hu nn ee=>by
         subst ee;rcases HRA.out.r.lo with⟨rfl,_⟩ | ⟨g',cp,rfl,_,_⟩<;>(rw[ez.out]at hu;simp at hu)
        subst ev;have z2:=h68.cell 2 rfl;have fz2:=h68.frozen 2;have lx8:=h68.lt
        have o9:aB (w.heap.size+1) w8 (w8.setCell ⟨w.heap.size+1,2,none⟩ (.slice (some ⟨g',0,none⟩) (q+1) cp')):=(aB.refl _ _).set 2 _;have hb9:=hb8.trans (o9.below (base:=w.heap.size) (by omega))
        have n12:g12≠w.heap.size+1:=fun e=>by
         rw[e]at c128;have:=mo c128 h68;revert this;decide
        have F1:=ag (hR8.only (Nat.le_refl _) h68 (by decide) nv o9 (HG.out.keep hb9));have F2:=ag (h68.set 2 (.slice (some ⟨g',0,none⟩) (q+1) cp'));have F3:=ag (o9.cel h48 (by omega))
        have F4:=ag (o9.cel c128 n12);have F5:=ag (jJ own78 h68 (by decide) o9);have F6:=ag (jJ own98 h68 (by decide) o9);have F7:=ag (hz8.only h68 (by decide) o9)
        have F8:=ag (o9.wd x18 (x18.apart h68 nv));have F9:=ag hb9;have l8:Hid ((css++[cs]).length=q+1):=by show _=_;rw[List.length_append,hl.out];rfl
        have zl:=ZL.out q;have zsn:=ag (xV t q);have lz:Hid (((List.range q).map (Mx.zs t)).length=q):=by show _=_;simp
        obtain⟨Y,hY⟩:∃Y,Hid (Y=j-Mx.zs t q):=⟨_,rfl⟩;rw[<-hY.out]at ON1;obtain⟨Zq,hZq⟩:∃Zq,Hid (Zq=Mx.zs t q):=⟨_,rfl⟩;rw[<-hZq.out]at zl zsn
        have eY1:(j:Int)-(Y:Int)=(Zq:Int):=by rw[hY.out,<-hZq.out];omega
        have eY2:IntKind.i64.wrap ((j:Int)-(Y:Int))=(Zq:Int):=by rw[eY1,IntKind.wrap_i64];omega
        have eY4:IntKind.i64.wrap (Zq:Int)=(Zq:Int):=by rw[IntKind.wrap_i64];omega
        have eY5:wrap64 (Zq:Int)=(Zq:Int):=by unfold wrap64;omega
        have eY3:wrap64 ((j:Int)-(Y:Int))=(Zq:Int):=by rw[eY1];exact eY5
        clear hR8 h68 h48 c128 own78 own98 hz8 x18 hb8 nv o9 hLO hTn hv2 HRA H6A H4A HO7A H9A HZA C12A X1A HKA HBA x2 fz hb9 cA c13 hY hZq LL n12 ZL H11 HL H1 H22 HN HL22 hvL e12;go_wp2
        refine ba [12] (fun w'=>aa w' (w.heap.size+1) [.int .i64 k,.int .i64 (j:Int),.slice (some ⟨g',0,none⟩) (q+1) cp',vZ] 27/\aa w' g12 [.int .i64 (j:Int),.slice bo m dap] 53) (by kernel_rfl) ?_
        obtain⟨W9,hW9⟩:∃W9,W9=(w8.setCell ⟨w.heap.size+1,2,none⟩ (.slice (some ⟨g',0,none⟩) (q+1) cp')).drew:=⟨_,rfl⟩
        have bd:Below (w8.setCell ⟨w.heap.size+1,2,none⟩ (.slice (some ⟨g',0,none⟩) (q+1) cp')).heap.size (w8.setCell ⟨w.heap.size+1,2,none⟩ (.slice (some ⟨g',0,none⟩) (q+1) cp')) W9:=by rw[hW9];exact(Below.refl _ _).drew
        rw[<-hW9];replace F1:=ag (F1.out.keep bd);replace F2:=ag (F2.out.kept bd);replace F3:=ag (F3.out.kept bd);replace F4:=ag (F4.out.kept bd);replace F5:=ag (Ap.owns_below F5.out bd)
        replace F6:=ag (Ap.owns_below F6.out bd);replace F7:=ag (F7.out.keep bd);replace F8:=ag (F8.out.keep bd);replace F9:=ag (bg F9.out bd);clear hW9 bd z2 fz2 lx8
        have hS:=And.intro F2.out F4.out;refine aK 0 hS ?_;refine aF 1 hS rfl (fun w0 h0=>by have c3:=h0.1.cell 3 rfl;go_simp;try with_reducible rfl) ?_;refine aK 2 hS ?_
        refine aF 3 hS rfl (fun w0 h0=>by have y0:=h0.2.cell 0 rfl;go_simp;try with_reducible rfl) ?_
        refine aF 4 hS rfl (fun w0 h0=>by have y0:=h0.2.cell 0 rfl;have y1:=h0.2.cell 1 rfl;go_simp;try with_reducible rfl) ?_;refine aK 5 hS ?_
        refine aF 6 hS rfl (fun w0 h0=>by have y0:=h0.2.cell 0 rfl;go_simp;try with_reducible rfl) ?_;refine aO 7 ?_;intro K hK;go_simp;refine mr (ON1.out _ bo dap F8.out) fun w10 hb10=>?_
        replace F1:=ag (F1.out.keep hb10);replace F2:=ag (F2.out.kept hb10);replace F3:=ag (F3.out.kept hb10);replace F4:=ag (F4.out.kept hb10);replace F5:=ag (Ap.owns_below F5.out hb10)
        replace F6:=ag (Ap.owns_below F6.out hb10);replace F7:=ag (F7.out.keep hb10);replace F9:=ag (bg F9.out hb10);clear hb10 F8 ON1 hS;have hS:=And.intro F2.out F4.out
        refine hK.out _ _ (fun _=>hS) ?_;clear hK K;try simp only[Act.put,ar,an,am,ah,aj,ai]
        refine aK 8 hS ?_;refine aO 9 ?_;intro K hK;go_simp;have bA:=below_alloc w10 (.cells #[.int .i64 (Zq:Int)] 3);have cA:=aa.new w10 [.int .i64 (Zq:Int)] 3;replace F1:=ag (F1.out.keep bA)
        replace F2:=ag (F2.out.kept bA);replace F3:=ag (F3.out.kept bA);replace F4:=ag (F4.out.kept bA);replace F5:=ag (Ap.owns_below F5.out bA);replace F6:=ag (Ap.owns_below F6.out bA)
        replace F7:=ag (F7.out.keep bA);replace F9:=ag (bg F9.out bA);clear bA hS;have hS:=And.intro F2.out F4.out;refine hK.out _ _ (fun _=>hS) ?_;clear hK K
        try simp only[Act.put,ar,an,am,ah,aj,ai]
        refine aO 10 ?_;intro K hK;refine zd (by rfl) _ _ (by rfl) vZ ((List.range q).map (Mx.zs t)) (by rfl) F7.out Zq ⟨w10.heap.size,0,none⟩ 1 (by rfl) ?c1 (by rw[lz.out];omega) ?_
        case c1=>
         have:=cA.cell 0 rfl;rw[<-this];unfold Addr.add;split
         .subst_vars;rfl
         .simp
        intro u' w11 hz11 hTz hu;rw[zsn.out]at hz11
        obtain⟨zo',zc',eu⟩:∃zo' zc',u'=.slice zo' (q+1) zc':=by
         obtain⟨a1,a2,a3⟩:=hz11.len;exact⟨a1,a2,by rw[a3];simp⟩
        have hb11:Below w.heap.size w w11:=F9.out.trans (hTz.below hvZ.out F9.out.size);have G1:=F1.out.zs hTz hu (HG.out.keep hb11);have G2:=hTz.cel F2.out (by decide);have G3:=hTz.cel F3.out (by decide)
        have G4:=hTz.cel F4.out (by decide);have G5:=Dk F5.out HA.out hTz;have G6:=Dj F6.out (by decide) hTz;have GA:=JZ F5.out HA.out hu
        have HVZ:Hid (∀gg,u'.ownBlock=some gg->w.heap.size<=gg):=fun gg hg=>by
         rcases hu gg hg with e | rfl
         .exact hvZ.out gg e
         .exact F9.out.size
        have nz:bT [.int .i64 k,.int .i64 (j:Int),.slice (some ⟨g',0,none⟩) (q+1) cp',vZ]:=fun u hu nn ee=>by
         subst ee;rw[ez.out]at hu;simp at hu
        subst eu;clear hS;have hS:=And.intro G2 G4;refine hK.out _ _ (fun _=>hS) ?_;clear hK K;try simp only[Act.put,ar,an,am,ah,aj,ai]
        refine aK 11 hS ?_;refine aO 12 ?_;intro K hK;have x3:=G2.cell 3 rfl;have y3:=G2.frozen 3;go_simp;refine hK.out _ _ (fun h=>absurd (by decide) h) ?_;clear hK K
        try simp only[Act.put,ar,an,am,ah,aj,ai]
        refine aw.done (by kernel_rfl) ?_ _;have o12:aB (w.heap.size+1) w11 (w11.setCell ⟨w.heap.size+1,3,none⟩ (.slice zo' (q+1) zc')):=(aB.refl _ _).set 3 _
        have hb12:=hb11.trans (o12.below (base:=w.heap.size) (by omega));have K1:=ag (G1.only (Nat.le_refl _) G2 (by decide) nz o12 (HG.out.keep hb12));have K2:=ag (G2.set 3 (.slice zo' (q+1) zc'))
        have K3:=ag (o12.cel G3 (by omega));have K5:=ag (jJ G5 G2 (by decide) o12);have K6:=ag (jJ G6 G2 (by decide) o12);have K7:=ag (hz11.only G2 (by decide) o12);have K9:=ag hb12
        have KA:=ag GA;clear hS G1 G2 G3 G4 G5 G6 GA hz11 hTz hu hb11 hb12 o12 nz x3 y3 F1 F2 F3 F4 F5 F6 F7 F9 cA HA hvZ;go_wp2_with fail
        refine(PT1.out _ oo oc a9 c9 (mM K5.out (LS.out q).symm) (py K6.out (LR.out q).symm)).mono ?_;rintro e w13 ⟨o2,c2,rfl,own2,hb13⟩
        have ap2:Ap.Apart (.slice o2 j c2) (.slice zo' (q+1) zc'):=fun k hk hu=>by
         obtain⟨_,_,_,_,hh⟩:=Ap.owns_shape own2;have:=(hh k hk).1;have:=K7.out.lt hu;omega
        have M1:=ag (K1.out.keep hb13);have M2:=ag (K2.out.kept hb13);have M3:=ag (K3.out.kept hb13);have M5:=ag own2;have M7:=ag (K7.out.keep hb13);have M9:=ag (bg K9.out hb13)
        have MA:=ag ap2;clear K1 K2 K3 K5 K6 K7 K9 KA own2 hb13 ap2 PT1;go_wp2
        exact⟨⟨q+1,css++[cs],.slice (some ⟨g',0,none⟩) (q+1) cp',.slice zo' (q+1) zc',o2,c2,_,by omega,by go_num,rfl,l8,ag (fun _=>trivial),HVL,HVZ,M1,M5,M7,MA,M2,M3,M9⟩,by simp only[intOf];omega⟩
       .have zz:(E != 0)=true:=by simp[z]
        have eB:eI k t=⟨0,0,[],[]⟩:=by unfold eI;rw[if_neg (by rw[<-hE.out];exact z)]
        have G7:=HG.out.keep HB.out;clear HR H6 HKI c13 HO7 H9 HZ HA C12 X1 LL
        go_wp2_with (refine aJ w.heap.size [.int .i64 0,.int .i64 0,.slice none 0 0,.slice none 0 0] [.int .i64 0,.int .i64 0,.slice none 0 0,.slice none 0 0] rfl rfl H4.out rfl (by kernel_rfl) (by simp[Value.oneCell']) ?_)
        intro w8 c8' o8;have HC:=ag (And.intro c8' (HB.out.trans (o8.below (Nat.le_refl _))));clear c8' o8 H4;go_wp2
        (try simp only[Exit.inBlock,Exit.then]);refine bodyPost_ret (bj rfl w.heap.size _ rfl HC.out.1 underlying27 (by kernel_rfl)) rfl ⟨none,0,none,0,?_,?_,HC.out.2⟩
        .rw[eB];rfl
        .rw[eB];exact⟨⟨by decide,by decide⟩,⟨by decide,by decide⟩,fun h=>absurd h (by decide),fun h=>absurd h (by decide),by decide,by decide,HG.out.keep HC.out.2⟩
    .obtain rfl:q=8:=by omega
     have z:=h0.out (by decide);subst z;obtain⟨lo,lc,rfl,hlv⟩:=HR.out.r.lv (by rw[hl.out,iA]);obtain⟨zo,zc,rfl⟩:=HZ.out.len;have eB:eI k t=mRx k t:=by unfold eI;rw[if_pos hE.out.symm]
     have hnz:=HZ.out.nd;have lz:((List.range 8).map (Mx.zs t)).length=8:=by simp
     have la:(mA k t).length=8:=iA k t;have HLV:=ag (And.intro hlv hnz);rw[lz,la]at H6;have H6':=H6.out;have x0:=H6'.cell 0 rfl;have x1:=H6'.cell 1 rfl;have x2:=H6'.cell 2 rfl;have x3:=H6'.cell 3 rfl
     have nz0:bT [.int .i64 0,.int .i64 0,.slice none 0 0,.slice none 0 0]:=fun u hu nn ee=>by subst ee;simp at hu
     have o6':∀w6,aB w.heap.size wr w6->Hid (Lv w6 lo (mA k t)/\Nd w6 zo (mI (mZ t))/\Below w.heap.size w w6):=fun w6 o6=>by
      have hb6:=HB.out.trans (o6.below (Nat.le_refl _));have r6:=HR.out.only (Nat.le_succ _) H4.out (by decide) nz0 o6 (HG.out.keep hb6);obtain⟨lo',lc',e1,hl'⟩:=r6.r.lv (by rw[hl.out,iA])
      injection e1 with e1 e2 e3
      subst e1;exact⟨hl',(HZ.out.only H4.out (by decide) o6).nd,hb6⟩
     have OO:=ag o6';clear hlv hnz o6' FR BK ON PT SY KK ZL LS LR HR HZ HA HO7 H6' H6 HLV
     go_wp2_with (refine aJ w.heap.size [.int .i64 0,.int .i64 0,.slice none 0 0,.slice none 0 0] [.int .i64 k,.int .i64 (i:Int),.slice lo 8 lc,.slice zo 8 zc] rfl rfl H4.out rfl (by kernel_rfl) (by simp[Value.oneCell']) ?_)
     intro w6 c6 o6;have HC:=ag (And.intro c6 (OO.out w6 o6).out);clear c6 o6 H4 x0 x1 x2 x3 OO;go_wp2
     (try simp only[Exit.inBlock,Exit.then]);refine bodyPost_ret (bj rfl w.heap.size _ rfl HC.out.1 underlying27 (by kernel_rfl)) rfl ⟨lo,lc,zo,zc,?_,?_,HC.out.2.2.2⟩
     .rw[eB];unfold mRx;rw[<-hnn.out,la,dt,iz];rfl
     .rw[eB]
      exact⟨hK,⟨by show _<=((t.length:Nat):Int);omega,by show((t.length:Nat):Int)<=_;rw[<-hnn.out];omega⟩,HC.out.2.1,HC.out.2.2.1,by show(mA k t).length<=_;rw[la];decide,by show(mI (mZ t)).length<=_;rw[dt,iz];decide,HG.out.keep HC.out.2.2.2⟩
end Go.Proofs.YtleegaihbgbcjabGreatDoor
namespace Go.Proofs.YtleegaihbgbcjabGreatDoor
open Num Bit Bn
theorem sI{a:cD}(h:z7 a=true):a=n7:=by
 cases a;simp[z7,norw]at h;simp[n7,h]
theorem sH{a:aP}(h:z8 a=true):a=n8:=by
 cases a;simp[z8,norw]at h;simp[n8,h]
theorem sG{a:bF}(h:z9 a=true):a=n9:=by
 cases a;simp[z9,norw]at h;simp[n9,h]
theorem FQ(a:cD)(h:kOk7 a=true):kB7 (kBN7 a) (kBX7 a)=a/\kE7 (kBN7 a) (kBX7 a)=0:=by
 have h':=h;unfold kOk7 pchk at h';simp only[Bool.and_eq_true,decide_eq_true_eq]at h';obtain⟨h1,h2,h3⟩:=h';have e1:kBN7 a=a.N:=by unfold kBN7 dz;exact if_pos h
 have e2:kBX7 a=a.xs:=by unfold kBX7 cU;exact if_pos h
 rw[e1,e2];unfold kB7 iq fb fe fd kE7 kp;rw[if_pos h1,if_pos h1,if_pos h1,if_pos h1,if_pos h1,<-h2,<-h3];exact⟨rfl,rfl⟩
theorem FP(a:aP)(h:kOk8 a=true):kB8 (kBN8 a) (kBX8 a)=a/\kE8 (kBN8 a) (kBX8 a)=0:=by
 have hk:=oQ a h;obtain⟨_,_,_,h4⟩:=lj _ _ _ _ _ _ _ _ _ h;obtain⟨g1,g2,g3,g4,g5,g6,g7,g8,g9⟩:=qg _ _ _ _ _ _ _ _ _ _ _ h4
 have e1:kBN8 a=(rwN (rDec a.N a.k a.V a.xs a.L a.ys):Int):=by unfold kBN8 fR;exact if_pos h
 have e2:kBX8 a=rwX (rDec a.N a.k a.V a.xs a.L a.ys):=by unfold kBX8 dI;exact if_pos h
 rw[e1,e2]at hk⊢;refine⟨?_,if_pos hk⟩;unfold kB8 fM fQ fK fN dY fP dX dW dU
 rw[if_pos hk,if_pos hk,if_pos hk,if_pos hk,if_pos hk,if_pos hk,if_pos hk,if_pos hk,if_pos hk,Int.toNat_natCast,<-g1,<-g4,<-g2,<-g5,<-g6,<-g7,<-g8,<-g9,<-g3]
theorem FO(a:bF)(h:kOk9 a=true):kB9 (kBN9 a) (kBX9 a)=a/\kE9 (kBN9 a) (kBX9 a)=0:=by
 have hk:=lU a h;obtain⟨_,h2⟩:=mU a h;obtain⟨_,_,hr⟩:=vF a h;have e1:kBN9 a=a.N:=by unfold kBN9;exact if_pos h
 have e2:kBX9 a=rowOf a.N.toNat (isIn (kRow a)):=by unfold kBX9;exact if_pos h
 rw[e1,e2]at hk⊢;refine⟨?_,if_pos hk⟩;unfold kB9;rw[if_pos hk,un _ (isIn (kRow a)) _ fun i hi=>by rw[fk,decide_eq_true hi,Bool.true_and],ul hr];exact h2.symm
theorem vG(a:RA)(h:aX a=true):1<=a.K/\a.K<=3/\kB a.K (kBN a) (aY a)=a:=by
 have key:kOn a≠0->cO a=true/\a.K=kOn a:=fun h0=>by
  by_cases z:cO a=true
  .exact⟨z,by unfold kOn;rw[if_pos z]⟩
  .exact absurd (by unfold kOn;rw[if_neg z]) h0
 obtain⟨K,p,r,f⟩:=a;by_cases h1:kOn ⟨K,p,r,f⟩=1
 .obtain⟨z,k⟩:=key (by omega);obtain⟨e1,e2,e3,_⟩:=ge h1;rw[h1]at k;dsimp only at k;subst k;simp[cO]at z;obtain rfl:=sH z.1;obtain rfl:=sG z.2;obtain⟨g1,g2⟩:=FQ p (e1.symm.trans h);rw[e2,e3]
  refine⟨by dsimp only;decide,by dsimp only;decide,?_⟩;dsimp only;rw[oP _ _ g2,g1]
 by_cases h2:kOn ⟨K,p,r,f⟩=2
 .obtain⟨z,k⟩:=key (by omega);obtain⟨e1,e2,e3,_⟩:=gc h2;rw[h2]at k;dsimp only at k;subst k;simp[cO]at z;obtain rfl:=sI z.1;obtain rfl:=sG z.2;obtain⟨g1,g2⟩:=FP r (e1.symm.trans h);rw[e2,e3]
  refine⟨by dsimp only;decide,by dsimp only;decide,?_⟩;dsimp only;rw[oO _ _ g2,g1]
 by_cases h3:kOn ⟨K,p,r,f⟩=3
 .obtain⟨z,k⟩:=key (by omega);obtain⟨e1,e2,e3,_⟩:=fV h3;rw[h3]at k;dsimp only at k;subst k;simp[cO]at z;obtain rfl:=sI z.1;obtain rfl:=sH z.2;obtain⟨g1,g2⟩:=FO f (e1.symm.trans h);rw[e2,e3]
  refine⟨by dsimp only;decide,by dsimp only;decide,?_⟩;dsimp only;rw[mV _ _ g2,g1]
 rw[(fU h1 h2 h3).1]at h;cases h
def jM(x:MR):Bool:=decide (x.av.length=8)&&(decide (0<=x.N/\x.N<=8192)&&(List.range 8).all fun l=>decide (kBN (mrw x l)=x.N))
def ix(x:MR)(l:Nat):List Bool:=(List.range x.N.toNat).map fun i=>bitAt (aY (mrw x l)) i
def mX(x:MR):List Nat:=if jM x then Mx.tx (ix x) x.N.toNat else []
theorem qQ(x:MR)(l:Nat):(ix x l).length=x.N.toNat:=by simp[ix]
theorem Je(x:MR)(l i:Nat)(h:i<x.N.toNat):bt (ix x l) i=bitAt (aY (mrw x l)) i:=by
 unfold bt ix;rw[List.getD_eq_getElem?_getD,List.getElem?_map,List.getElem?_range h];rfl
theorem vw{x:MR}(h:x.av.length≠8\/x.N<0\/8192<x.N):jM x=false:=by
 unfold jM;rcases h with h | h
 .rw[decide_eq_false h];rfl
 .rw[decide_eq_false (show ¬(0<=x.N/\x.N<=8192)by omega)];simp
theorem E6{x:MR}(l:Nat)(hl:l<8)(h:kBN (mrw x l)≠x.N):jM x=false:=by
 refine Bool.eq_false_iff.2 fun e=>?_;unfold jM at e;simp only[Bool.and_eq_true,List.all_eq_true,decide_eq_true_eq]at e;exact h (e.2.2 l (List.mem_range.2 hl))
theorem vu{x:MR}(h1:x.av.length=8)(h2:0<=x.N/\x.N<=8192)(h:∀l,l<8->kBN (mrw x l)=x.N):jM x=true:=by
 unfold jM;simp only[Bool.and_eq_true,List.all_eq_true,decide_eq_true_eq];exact⟨h1,h2,fun l hl=>h l (List.mem_range.1 hl)⟩
theorem oB(x:MR)(h:x.N<=600):(mX x).length<=600:=by
 unfold mX;split
 .rw[Mx.length_tx];omega
 .exact Nat.zero_le _
theorem xA(x:MR):iR (mX x):=by
 unfold mX;split
 .exact Mx.byt_tx _ _
 .exact fun i=>by unfold gt;simp
theorem lH{x:MR}{l:Nat}(h:gO x l=true):aX (mrw x l)=true/\0<=x.N/\kBN (mrw x l)=x.N/\(mrw x l).K=x.K/\(cB (aY (mrw x l)) false x.N.toNat:Int)=gi x.zs l:=by
 unfold gO at h;simp only[Bool.and_eq_true,decide_eq_true_eq]at h;obtain⟨h1,h2,h3,h4⟩:=h;have h5:=h1;unfold grN at h2;rw[if_pos h1]at h2;unfold grE at h5;cases ok:aX (mrw x l)with
 | false=>rw[ok]at h5;simp at h5
 | true=>
  rw[ok,if_pos rfl]at h5;refine⟨rfl,?_,h4,h3,h2⟩;by_cases c:x.N<0
  .rw[if_pos (.inl c)]at h5;cases h5
  .omega
theorem vt(x:MR)(hf:∀l,l<8->aA (aY (mrw x l)))(hN:x.N<=600):mOk x=true↔(1<=x.K/\x.K<=3)/\x=mRx x.K (mX x):=by
 constructor
 .intro h;obtain⟨g1,g2,g3,g4⟩:=oC h;have n0:0<=x.N:=(lH (g4 0 (by decide))).2.1;have eA:jM x=true:=vu g2 ⟨n0,g1⟩ fun l hl=>(lH (g4 l hl)).2.2.1
  have eX:mX x=Mx.tx (ix x) x.N.toNat:=by unfold mX;rw[if_pos eA]
  have eL:(mX x).length=x.N.toNat:=by rw[eX,Mx.length_tx]
  have eR:∀l,l<8->Mx.rw_ (mX x) l=ix x l:=fun l hl=>by
   rw[eX];exact Mx.rw_tx (ix x) x.N.toNat (fun l _=>qQ x l) l hl l (Nat.le_refl _)
  have eF:∀l,l<8->aC (Mx.rw_ (mX x) l)=aY (mrw x l):=fun l hl=>by
   obtain⟨k1,_,k3,_,_⟩:=lH (g4 l hl);have c:=kH _ k1;rw[k3]at c;rw[eR l hl];unfold aC;rw[qQ,kK _ _ (hf l hl) c];exact da _ _ _ fun i hi=>Je x l i hi
  have hk:1<=x.K/\x.K<=3:=by
   obtain⟨k1,_,_,k4,_⟩:=lH (g4 0 (by decide));have:=vG _ k1;rw[k4]at this;exact⟨this.1,this.2.1⟩
  refine⟨hk,?_⟩;have eN:((mX x).length:Int)=x.N:=by rw[eL];omega
  have ea:x.av=mA x.K (mX x):=by
   refine List.ext_getElem (by rw[g2,iA]) fun l h1 h2=>?_;have hl:l<8:=by rw[<-g2];exact h1
   obtain⟨k1,_,k3,k4,_⟩:=lH (g4 l hl);have s:=(vG _ k1).2.2;rw[k3,k4]at s;have e1:mrw x l=x.av[l]:=by unfold mrw;rw[List.getD_eq_getElem?_getD,List.getElem?_eq_getElem h1];rfl
   have e3:(mA x.K (mX x)).getD l ra0=(mA x.K (mX x))[l]:=by rw[List.getD_eq_getElem?_getD,List.getElem?_eq_getElem h2];rfl
   refine e1.symm.trans (Eq.trans ?_ e3);rw[lI _ _ hl,eF l hl,eN];exact s.symm
  have ez:x.zs=mI (mZ (mX x)):=by
   refine List.ext_getElem (by rw[g3,dt,iz]) fun l h1 h2=>?_;have hl:l<8:=by rw[<-g3];exact h1
   obtain⟨_,_,_,_,k5⟩:=lH (g4 l hl);have e1:gi x.zs l=x.zs[l]:=by unfold gi;rw[List.getD_eq_getElem?_getD,List.getElem?_eq_getElem h1];rfl
   have e2:gi (mI (mZ (mX x))) l=(mI (mZ (mX x)))[l]:=by unfold gi;rw[List.getD_eq_getElem?_getD,List.getElem?_eq_getElem h2];rfl
   refine e1.symm.trans (Eq.trans ?_ e2);rw[<-k5,iN _ _ (by rw[iz];exact hl),qH _ hl,<-eF l hl,rL _ _ _ (by rw[Mx.length_rw,eL];exact Nat.le_refl _)];unfold Mx.zs;rw[Mx.length_rw,eL]
  generalize mX x=t at *;cases x;dsimp only at *;unfold mRx;rw[<-ea,<-ez,eN]
 .rintro⟨hk,h2⟩;rw[h2];exact qB hk (by have:=oB x hN;omega)
end Go.Proofs.YtleegaihbgbcjabGreatDoor
namespace Go.Proofs.YtleegaihbgbcjabGreatDoor
open Go.RowKit Num Bit
theorem DR(N:Int)(n:Nat):norw [(N,n)]=(decide (N=0)&&decide ((n:Int)=0)):=by simp[norw]
theorem uI(p q:Int×Nat):norw [p,q]=(norw [p]&&norw [q]):=by simp[norw]
theorem ow(N:Int)(ao:Option Addr)(n cap:Nat)(w:World):
  Qq 187 #[.agg #[.int .i64 N,.slice ao n cap]] w (.bool (norw [(N,n)])):=by
 rw[DR];by_cases q:N=0
 .subst q;by_cases r:(n:Int)=0
  .have d:((n:Int)==0)=true:=by simp only[r];rfl
   rw[decide_eq_true r];go_enter func187,ntmps187;go_wp2;go_ret;exact⟨rfl,below_alloc _ _⟩
  .have d:((n:Int)==0)=false:=beq_eq_false_iff_ne.2 r;rw[decide_eq_false r];go_enter func187,ntmps187;go_wp2;go_ret;exact⟨rfl,below_alloc _ _⟩
 .have d:(N==0)=false:=beq_eq_false_iff_ne.2 q;rw[decide_eq_false q];go_enter func187,ntmps187;go_wp2;go_ret;exact⟨rfl,below_alloc _ _⟩
def iV(k V M:Int)(n:Nat):Bool:=decide (k=0)&&(decide (V=0)&&norw [(M,n)])
theorem uJ(k V M:Int)(ao:Option Addr)(n cap:Nat)(w:World):
  Qq 188 #[.agg #[.int .i64 k,.int .i64 V,.int .i64 M,.slice ao n cap]] w (.bool (iV k V M n)):=by
 unfold iV;by_cases q:k=0
 .subst q;by_cases r:V=0
  .subst r;have C:=ow M ao n cap;generalize norw [(M,n)]=R at *;go_enter func188,ntmps188;go_wp2_with fail;refine mr (C _) fun w1 hb=>?_;have bw:=(below_alloc w _).trans (hb.mono (by simp))
   go_wp2;go_ret;exact⟨by cases R<;>rfl,bw⟩
  .have d:(V==0)=false:=beq_eq_false_iff_ne.2 r;rw[decide_eq_false r];go_enter func188,ntmps188;go_wp2;go_ret;exact⟨rfl,below_alloc _ _⟩
 .have d:(k==0)=false:=beq_eq_false_iff_ne.2 q;rw[decide_eq_false q];go_enter func188,ntmps188;go_wp2;go_ret;exact⟨rfl,below_alloc _ _⟩
theorem xY(cs:List Value)(a:RA)(w:World)(h:KI w cs a):
  Qq 167 #[.agg cs.toArray] w (.bool (cO a)):=by
 obtain⟨⟨cp,cr,cf,rfl,hK,h1,h2,h3⟩,sm⟩:=h;have s1:=sm.p2;have s2:=sm.p3;have s3:=sm.r3;have s4:=sm.r4;clear sm
 obtain⟨K,⟨N,xs,S,T⟩,⟨N8,k8,V8,M8,x8,L8,y8,S8,T8⟩,⟨N9,M9,k9,V9,L9,x9,H9,y9⟩⟩:=a;dsimp only at *;obtain⟨ao,cap,so,sc,tO,tc,rfl, -⟩:=h1;obtain⟨a8,e8,q8,d8,s8,f8,t8,g8,rfl, -⟩:=h2
 obtain⟨a9,e9,q9,d9,rfl, -⟩:=h3;dsimp only at *;obtain⟨Z,hZ⟩:∃Z,Hid (Z=cO ⟨K,⟨N,xs,S,T⟩,⟨N8,k8,V8,M8,x8,L8,y8,S8,T8⟩,⟨N9,M9,k9,V9,L9,x9,H9,y9⟩⟩):=⟨_,rfl⟩
 obtain⟨A,hA⟩:∃A,Hid (A=z7 ⟨N,xs,S,T⟩):=⟨_,rfl⟩;obtain⟨B,hB⟩:∃B,Hid (B=z8 ⟨N8,k8,V8,M8,x8,L8,y8,S8,T8⟩):=⟨_,rfl⟩;obtain⟨C,hC⟩:∃C,Hid (C=z9 ⟨N9,M9,k9,V9,L9,x9,H9,y9⟩):=⟨_,rfl⟩
 have hZ2:Hid (Z=((decide (K=1)||A)&&((decide (K=2)||B)&&(decide (K=3)||C)))):=by
  show Z=_;rw[hZ.out,hA.out,hB.out,hC.out];rfl
 rw[<-hZ.out]
 have EA:Hid (A=(norw [(N,xs.length)]&&decide ((S.length:Int)+(T.length:Int)=0))):=by
  show A=_;rw[hA.out];unfold z7;dsimp only;congr 1;rw[<-Bool.decide_and];congr 1;simp only[eq_iff_iff];omega
 have EB:Hid (B=(decide (N8=0)&&(iV k8 V8 M8 x8.length&&(norw [(L8,y8.length)]&&decide ((S8.length:Int)+(T8.length:Int)=0))))):=by
  show B=_;rw[hB.out];unfold z8 iV;dsimp only
  rw[uI,show decide ((S8.length:Int)+(T8.length:Int)=0)=(decide ((S8.length:Int)=0)&&decide ((T8.length:Int)=0))by rw[<-Bool.decide_and];congr 1;simp only[eq_iff_iff];omega]
  simp only[Bool.and_assoc]
 have EC:Hid (C=(decide (N9=0)&&(decide (M9=0)&&(iV k9 V9 L9 x9.length&&norw [(H9,y9.length)])))):=by
  show C=_;rw[hC.out];unfold z9 iV;dsimp only;rw[uI];simp only[Bool.and_assoc]
 clear hZ hA hB hC;have wS:IntKind.i64.wrap ((S.length:Int)+(T.length:Int))=(S.length:Int)+(T.length:Int):=by rw[IntKind.wrap_i64];omega
 have wS8:IntKind.i64.wrap ((S8.length:Int)+(T8.length:Int))=(S8.length:Int)+(T8.length:Int):=by rw[IntKind.wrap_i64];omega
 have N1:Hid (∀w0:World,Qq 187 #[.agg #[.int .i64 N,.slice ao xs.length cap]] w0 (.bool (norw [(N,xs.length)]))):=fun w0=>ow N ao xs.length cap w0
 have N2:Hid (∀w0:World,Qq 188 #[.agg #[.int .i64 k8,.int .i64 V8,.int .i64 M8,.slice a8 x8.length e8]] w0 (.bool (iV k8 V8 M8 x8.length))):=fun w0=>uJ k8 V8 M8 a8 x8.length e8 w0
 have N3:Hid (∀w0:World,Qq 187 #[.agg #[.int .i64 L8,.slice q8 y8.length d8]] w0 (.bool (norw [(L8,y8.length)]))):=fun w0=>ow L8 q8 y8.length d8 w0
 have N4:Hid (∀w0:World,Qq 188 #[.agg #[.int .i64 k9,.int .i64 V9,.int .i64 L9,.slice a9 x9.length e9]] w0 (.bool (iV k9 V9 L9 x9.length))):=fun w0=>uJ k9 V9 L9 a9 x9.length e9 w0
 have N5:Hid (∀w0:World,Qq 187 #[.agg #[.int .i64 H9,.slice q9 y9.length d9]] w0 (.bool (norw [(H9,y9.length)]))):=fun w0=>ow H9 q9 y9.length d9 w0
 have B0:aa (w.alloc (.cells ([.int .i64 K,.int .i64 N,.slice ao xs.length cap,.slice so S.length sc,.slice tO T.length tc,.int .i64 N8,.int .i64 k8,.int .i64 V8,.int .i64 M8,.slice a8 x8.length e8,.int .i64 L8,.slice q8 y8.length d8,.slice s8 S8.length f8,.slice t8 T8.length g8,.int .i64 N9,.int .i64 M9,.int .i64 k9,.int .i64 V9,.int .i64 L9,.slice a9 x9.length e9,.int .i64 H9,.slice q9 y9.length d9]:List Value).toArray 63)) w.heap.size [.int .i64 K,.int .i64 N,.slice ao xs.length cap,.slice so S.length sc,.slice tO T.length tc,.int .i64 N8,.int .i64 k8,.int .i64 V8,.int .i64 M8,.slice a8 x8.length e8,.int .i64 L8,.slice q8 y8.length d8,.slice s8 S8.length f8,.slice t8 T8.length g8,.int .i64 N9,.int .i64 M9,.int .i64 k9,.int .i64 V9,.int .i64 L9,.slice a9 x9.length e9,.int .i64 H9,.slice q9 y9.length d9] 63:=aa.new w _ _
 have bw:Below w.heap.size w (w.alloc (.cells ([.int .i64 K,.int .i64 N,.slice ao xs.length cap,.slice so S.length sc,.slice tO T.length tc,.int .i64 N8,.int .i64 k8,.int .i64 V8,.int .i64 M8,.slice a8 x8.length e8,.int .i64 L8,.slice q8 y8.length d8,.slice s8 S8.length f8,.slice t8 T8.length g8,.int .i64 N9,.int .i64 M9,.int .i64 k9,.int .i64 V9,.int .i64 L9,.slice a9 x9.length e9,.int .i64 H9,.slice q9 y9.length d9]:List Value).toArray 63)):=below_alloc w _
 generalize hsum:(S.length:Int)+(T.length:Int)=s7 at *;generalize hsum8:(S8.length:Int)+(T8.length:Int)=s78 at *;go_enter func167,ntmps167;go_upto_region 1 with fail
 go_cut [3] (fun s3 wx=>s3=.bool A/\aa wx w.heap.size [.int .i64 K,.int .i64 N,.slice ao xs.length cap,.slice so S.length sc,.slice tO T.length tc,.int .i64 N8,.int .i64 k8,.int .i64 V8,.int .i64 M8,.slice a8 x8.length e8,.int .i64 L8,.slice q8 y8.length d8,.slice s8 S8.length f8,.slice t8 T8.length g8,.int .i64 N9,.int .i64 M9,.int .i64 k9,.int .i64 V9,.int .i64 L9,.slice a9 x9.length e9,.int .i64 H9,.slice q9 y9.length d9] 63/\Below w.heap.size w wx)
 case first=>
  have c1:=B0.cell 1 rfl;have c2:=B0.cell 2 rfl;have c3:=B0.cell 3 rfl;have c4:=B0.cell 4 rfl;cases hn:norw [(N,xs.length)]with
  | false=>
   rw[hn]at N1;go_wp2_with fail;refine mr (N1.out _) fun w1 hb=>?_;replace B0:=B0.kept hb;replace bw:=bg bw hb;clear hb c1 c2 c3 c4;have c1:=B0.cell 1 rfl;have c2:=B0.cell 2 rfl
   have c3:=B0.cell 3 rfl;have c4:=B0.cell 4 rfl;go_wp2_with fail;go_meet;refine⟨?_,B0,bw⟩;rw[EA.out];simp[hn]
  | true=>
   rw[hn]at N1;by_cases q:s7=0
   .have d:(s7==0)=true:=by simp[q]
    go_wp2_with fail;refine mr (N1.out _) fun w1 hb=>?_;replace B0:=B0.kept hb;replace bw:=bg bw hb;clear hb c1 c2 c3 c4;have c1:=B0.cell 1 rfl;have c2:=B0.cell 2 rfl
    have c3:=B0.cell 3 rfl;have c4:=B0.cell 4 rfl;go_wp2_with fail;go_meet;refine⟨?_,B0,bw⟩;rw[EA.out];simp[hn,q]
   .have d:(s7==0)=false:=by simp[q]
    go_wp2_with fail;refine mr (N1.out _) fun w1 hb=>?_;replace B0:=B0.kept hb;replace bw:=bg bw hb;clear hb c1 c2 c3 c4;have c1:=B0.cell 1 rfl;have c2:=B0.cell 2 rfl
    have c3:=B0.cell 3 rfl;have c4:=B0.cell 4 rfl;go_wp2_with fail;go_meet;refine⟨?_,B0,bw⟩;rw[EA.out];simp[hn,q]
 case rest=>
 obtain⟨rfl,B1,bw1⟩:=hcut;clear N1 EA B0 bw wS hsum;have B0:=B1;have bw:=bw1;clear B1 bw1;go_upto_region 2 with fail
 go_cut [4] (fun s4 wx=>s4=.bool B/\aa wx w.heap.size [.int .i64 K,.int .i64 N,.slice ao xs.length cap,.slice so S.length sc,.slice tO T.length tc,.int .i64 N8,.int .i64 k8,.int .i64 V8,.int .i64 M8,.slice a8 x8.length e8,.int .i64 L8,.slice q8 y8.length d8,.slice s8 S8.length f8,.slice t8 T8.length g8,.int .i64 N9,.int .i64 M9,.int .i64 k9,.int .i64 V9,.int .i64 L9,.slice a9 x9.length e9,.int .i64 H9,.slice q9 y9.length d9] 63/\Below w.heap.size w wx)
 case first=>
  have c5:=B0.cell 5 rfl;have c6:=B0.cell 6 rfl;have c7:=B0.cell 7 rfl;have c8:=B0.cell 8 rfl;have c9:=B0.cell 9 rfl;have c10:=B0.cell 10 rfl;have c11:=B0.cell 11 rfl;have c12:=B0.cell 12 rfl
  have c13:=B0.cell 13 rfl;by_cases q:N8=0;rotate_left
  .have d:(N8==0)=false:=by simp[q]
   go_wp2_with fail;go_meet;refine⟨?_,B0,bw⟩;rw[EB.out];simp[q]
  subst q;cases hn:iV k8 V8 M8 x8.length with
  | false=>
   rw[hn]at N2;go_wp2_with fail;refine mr (N2.out _) fun w1 hb=>?_;replace B0:=B0.kept hb;replace bw:=bg bw hb;clear hb c5 c6 c7 c8 c9 c10 c11 c12 c13;have c5:=B0.cell 5 rfl
   have c6:=B0.cell 6 rfl;have c7:=B0.cell 7 rfl;have c8:=B0.cell 8 rfl;have c9:=B0.cell 9 rfl;have c10:=B0.cell 10 rfl;have c11:=B0.cell 11 rfl;have c12:=B0.cell 12 rfl;have c13:=B0.cell 13 rfl;go_wp2_with fail
   go_meet;refine⟨?_,B0,bw⟩;rw[EB.out];simp[hn]
  | true=>
   rw[hn]at N2;cases hm:norw [(L8,y8.length)]with
   | false=>
    rw[hm]at N3;go_wp2_with fail;refine mr (N2.out _) fun w1 hb=>?_;replace B0:=B0.kept hb;replace bw:=bg bw hb;clear hb c5 c6 c7 c8 c9 c10 c11 c12 c13;have c5:=B0.cell 5 rfl
    have c6:=B0.cell 6 rfl;have c7:=B0.cell 7 rfl;have c8:=B0.cell 8 rfl;have c9:=B0.cell 9 rfl;have c10:=B0.cell 10 rfl;have c11:=B0.cell 11 rfl;have c12:=B0.cell 12 rfl;have c13:=B0.cell 13 rfl
    go_wp2_with fail;refine mr (N3.out _) fun w2 hb=>?_;replace B0:=B0.kept hb;replace bw:=bg bw hb;clear hb c5 c6 c7 c8 c9 c10 c11 c12 c13;have c5:=B0.cell 5 rfl;have c6:=B0.cell 6 rfl
    have c7:=B0.cell 7 rfl;have c8:=B0.cell 8 rfl;have c9:=B0.cell 9 rfl;have c10:=B0.cell 10 rfl;have c11:=B0.cell 11 rfl;have c12:=B0.cell 12 rfl;have c13:=B0.cell 13 rfl;go_wp2_with fail;go_meet
    refine⟨?_,B0,bw⟩;rw[EB.out];simp[hn,hm]
   | true=>
    rw[hm]at N3;by_cases q:s78=0
    .have d:(s78==0)=true:=by simp[q]
     go_wp2_with fail;refine mr (N2.out _) fun w1 hb=>?_;replace B0:=B0.kept hb;replace bw:=bg bw hb;clear hb c5 c6 c7 c8 c9 c10 c11 c12 c13;have c5:=B0.cell 5 rfl;have c6:=B0.cell 6 rfl
     have c7:=B0.cell 7 rfl;have c8:=B0.cell 8 rfl;have c9:=B0.cell 9 rfl;have c10:=B0.cell 10 rfl;have c11:=B0.cell 11 rfl;have c12:=B0.cell 12 rfl;have c13:=B0.cell 13 rfl;go_wp2_with fail
     refine mr (N3.out _) fun w2 hb=>?_;replace B0:=B0.kept hb;replace bw:=bg bw hb;clear hb c5 c6 c7 c8 c9 c10 c11 c12 c13;have c5:=B0.cell 5 rfl;have c6:=B0.cell 6 rfl
     have c7:=B0.cell 7 rfl;have c8:=B0.cell 8 rfl;have c9:=B0.cell 9 rfl;have c10:=B0.cell 10 rfl;have c11:=B0.cell 11 rfl;have c12:=B0.cell 12 rfl;have c13:=B0.cell 13 rfl;go_wp2_with fail;go_meet
     refine⟨?_,B0,bw⟩;rw[EB.out];simp[hn,hm,q]
    .have d:(s78==0)=false:=by simp[q]
     go_wp2_with fail;refine mr (N2.out _) fun w1 hb=>?_;replace B0:=B0.kept hb;replace bw:=bg bw hb;clear hb c5 c6 c7 c8 c9 c10 c11 c12 c13;have c5:=B0.cell 5 rfl;have c6:=B0.cell 6 rfl
     have c7:=B0.cell 7 rfl;have c8:=B0.cell 8 rfl;have c9:=B0.cell 9 rfl;have c10:=B0.cell 10 rfl;have c11:=B0.cell 11 rfl;have c12:=B0.cell 12 rfl;have c13:=B0.cell 13 rfl;go_wp2_with fail
     refine mr (N3.out _) fun w2 hb=>?_;replace B0:=B0.kept hb;replace bw:=bg bw hb;clear hb c5 c6 c7 c8 c9 c10 c11 c12 c13;have c5:=B0.cell 5 rfl;have c6:=B0.cell 6 rfl
     have c7:=B0.cell 7 rfl;have c8:=B0.cell 8 rfl;have c9:=B0.cell 9 rfl;have c10:=B0.cell 10 rfl;have c11:=B0.cell 11 rfl;have c12:=B0.cell 12 rfl;have c13:=B0.cell 13 rfl;go_wp2_with fail;go_meet
     refine⟨?_,B0,bw⟩;rw[EB.out];simp[hn,hm,q]
 case rest=>
 obtain⟨rfl,B1,bw1⟩:=hcut;clear N2 N3 EB B0 bw wS8 hsum8;have B0:=B1;have bw:=bw1;clear B1 bw1;go_upto_region 3 with fail
 go_cut [5] (fun s5 wx=>s5=.bool C/\aa wx w.heap.size [.int .i64 K,.int .i64 N,.slice ao xs.length cap,.slice so S.length sc,.slice tO T.length tc,.int .i64 N8,.int .i64 k8,.int .i64 V8,.int .i64 M8,.slice a8 x8.length e8,.int .i64 L8,.slice q8 y8.length d8,.slice s8 S8.length f8,.slice t8 T8.length g8,.int .i64 N9,.int .i64 M9,.int .i64 k9,.int .i64 V9,.int .i64 L9,.slice a9 x9.length e9,.int .i64 H9,.slice q9 y9.length d9] 63/\Below w.heap.size w wx)
 case first=>
  have c14:=B0.cell 14 rfl;have c15:=B0.cell 15 rfl;have c16:=B0.cell 16 rfl;have c17:=B0.cell 17 rfl;have c18:=B0.cell 18 rfl;have c19:=B0.cell 19 rfl;have c20:=B0.cell 20 rfl;have c21:=B0.cell 21 rfl
  by_cases q:N9=0;rotate_left
  .have d:(N9==0)=false:=by simp[q]
   go_wp2_with fail;go_meet;refine⟨?_,B0,bw⟩;rw[EC.out];simp[q]
  subst q;by_cases q:M9=0;rotate_left
  .have d:(M9==0)=false:=by simp[q]
   go_wp2_with fail;go_meet;refine⟨?_,B0,bw⟩;rw[EC.out];simp[q]
  subst q;cases hn:iV k9 V9 L9 x9.length with
  | false=>
   rw[hn]at N4;go_wp2_with fail;refine mr (N4.out _) fun w1 hb=>?_;replace B0:=B0.kept hb;replace bw:=bg bw hb;clear hb c14 c15 c16 c17 c18 c19 c20 c21;have c14:=B0.cell 14 rfl
   have c15:=B0.cell 15 rfl;have c16:=B0.cell 16 rfl;have c17:=B0.cell 17 rfl;have c18:=B0.cell 18 rfl;have c19:=B0.cell 19 rfl;have c20:=B0.cell 20 rfl;have c21:=B0.cell 21 rfl;go_wp2_with fail;go_meet
   refine⟨?_,B0,bw⟩;rw[EC.out];simp[hn]
  | true=>
   rw[hn]at N4;go_wp2_with fail;refine mr (N4.out _) fun w1 hb=>?_;replace B0:=B0.kept hb;replace bw:=bg bw hb;clear hb c14 c15 c16 c17 c18 c19 c20 c21;have c14:=B0.cell 14 rfl
   have c15:=B0.cell 15 rfl;have c16:=B0.cell 16 rfl;have c17:=B0.cell 17 rfl;have c18:=B0.cell 18 rfl;have c19:=B0.cell 19 rfl;have c20:=B0.cell 20 rfl;have c21:=B0.cell 21 rfl;go_wp2_with fail
   refine mr (N5.out _) fun w2 hb=>?_;replace B0:=B0.kept hb;replace bw:=bg bw hb;clear hb c14 c15 c16 c17 c18 c19 c20 c21;have c14:=B0.cell 14 rfl;have c15:=B0.cell 15 rfl
   have c16:=B0.cell 16 rfl;have c17:=B0.cell 17 rfl;have c18:=B0.cell 18 rfl;have c19:=B0.cell 19 rfl;have c20:=B0.cell 20 rfl;have c21:=B0.cell 21 rfl;generalize norw [(H9,y9.length)]=R at *;go_wp2_with fail
   go_meet;refine⟨?_,B0,bw⟩;rw[EC.out];simp[hn]
 case rest=>
 obtain⟨rfl,B1,bw1⟩:=hcut;clear N4 N5 EC B0 bw;have c0:=B1.cell 0 rfl;by_cases q1:K=1
 .subst q1;cases A<;>cases B<;>cases C<;>(go_wp2;go_ret;rw[hZ2.out];exact⟨rfl,bw1⟩)
 by_cases q2:K=2
 .subst q2;cases A<;>cases B<;>cases C<;>(go_wp2;go_ret;rw[hZ2.out];exact⟨rfl,bw1⟩)
 by_cases q3:K=3
 .subst q3;cases A<;>cases B<;>cases C<;>(go_wp2;go_ret;rw[hZ2.out];exact⟨rfl,bw1⟩)
 have d1:(K==1)=false:=by simp[q1]
 have d2:(K==2)=false:=by simp[q2]
 have d3:(K==3)=false:=by simp[q3]
 rw[decide_eq_false q1,decide_eq_false q2,decide_eq_false q3]at hZ2;cases A<;>cases B<;>cases C<;>(go_wp2;go_ret;rw[hZ2.out];exact⟨rfl,bw1⟩)
theorem sT(cs:List Value)(a:RA)(w:World)(h:KI w cs a):
  Calls prog 117 #[.agg cs.toArray] w fun e w'=>∃bo bc,e=.returned (.tuple #[.agg #[.int .i64 (kBN a),.slice bo (aY a).length bc],.bool (aX a)])/\Wd w' bo (aY a)/\(aY a).length<=bc/\Below w.heap.size w w':=by
 have ZE0:=fun(w0:World) (hb:Below w.heap.size w w0)=>xY cs a w0 (h.keep hb);have HL:=Hid.mk8 h.arg.len;have sm:=h.sm;have gv:=h.gv;replace h:=h.arg;obtain⟨cp,cr,cf,rfl,hK,h1,h2,h3⟩:=h
 have l4:=Hid.mk8 h1.four;have l9:=Hid.mk8 h2.nine;have LP:=Hid.mk8 h1.len;have LR:=Hid.mk8 h2.len;have LF:=Hid.mk8 h3.len;obtain⟨K,p,r,f⟩:=a;dsimp only at *;have k7:b_ w cp p:=⟨h1,sm.p1,sm.p2,sm.p3⟩
 have k8:bm w cr r:=⟨h2,sm.r1,sm.r2,sm.r3,sm.r4,gv⟩;have k9:bJ w cf f:=⟨h3,sm.f0,sm.f1,sm.f2⟩
 have ZE:Hid (Qz w 167 #[.agg (Value.int .i64 K::(cp++(cr++cf))).toArray] (.bool (cO ⟨K,p,r,f⟩))):=ZE0
 clear ZE0 h1 h2 h3 sm gv;have bw:Below w.heap.size w ((w.alloc (.cells (Value.int .i64 K::(cp++(cr++cf))).toArray 63)).alloc (.cells #[.int .i64 0,.slice none 0 0] 53)):=(below_alloc w _).alloc (by simp) _
 have B0:aa ((w.alloc (.cells (Value.int .i64 K::(cp++(cr++cf))).toArray 63)).alloc (.cells #[.int .i64 0,.slice none 0 0] 53)) w.heap.size (Value.int .i64 K::(cp++(cr++cf))) 63:=(aa.new w _ _).alloc _
 have B2:aa ((w.alloc (.cells (Value.int .i64 K::(cp++(cr++cf))).toArray 63)).alloc (.cells #[.int .i64 0,.slice none 0 0] 53)) (w.heap.size+1) [.int .i64 0,.slice none 0 0] 53:=aa.new2 w _ _ _
 cases hz:cO ⟨K,p,r,f⟩with
 | false=>
  have o:kOn ⟨K,p,r,f⟩=0:=by unfold kOn;rw[hz];rfl
  obtain⟨e1,e2,e3,e4⟩:=fU (a:=⟨K,p,r,f⟩) (by omega) (by omega) (by omega);rw[e1,e2,e3];rw[hz]at ZE;clear e1 e2 e3 e4 o hz k7 k8 k9;go_enter func117,ntmps117
  go_wp2_with (refine bE w.heap.size _ (by rfl) rfl B0 underlying63 HL.out ?_);refine mr (ZE.out _ bw) fun w1 hb=>?_;replace B0:=B0.kept hb;replace B2:=B2.kept hb
  replace bw:=bg bw hb;clear hb;obtain⟨c0,p1,p2,p3⟩:=parts l4.out l9.out B0
  go_wp2_with (refine aJ (w.heap.size+1) _ [.int .i64 0,.slice none 0 0] rfl rfl B2 rfl eM (by simp[Value.oneCell']) ?_);intro w3 B3 O3
  have HZ:Hid (aa w3 (w.heap.size+1) [.int .i64 0,.slice none 0 0] 53/\Below w.heap.size w w3):=⟨B3,bw.trans (O3.below (Nat.le_succ _))⟩;clear B3 O3 B2 B0 c0 p1 p2 p3;go_wp2
  (try simp only[Exit.inBlock,Exit.then]);exact bodyPost_ret (bj rfl (w.heap.size+1) _ rfl HZ.out.1 underlying53 eM) rfl ⟨none,0,rfl,cE _ _,Nat.le_refl _,HZ.out.2⟩
 | true=>
  have o:kOn ⟨K,p,r,f⟩=K:=by unfold kOn;rw[hz];rfl
  rw[hz]at ZE;clear hz;by_cases q7:K=1
  .subst q7;obtain⟨e1,e2,e3,e4⟩:=ge o;rw[e1,e2,e3]
   have C:Hid (∀w0,Below w.heap.size w w0->Calls prog 168 #[.agg cp.toArray] w0 fun e w'=>∃bo bc,e=.returned (.tuple #[.agg #[.int .i64 (kBN7 p),.slice bo (kBX7 p).length bc],.bool (kOk7 p)])/\Wd w' bo (kBX7 p)/\(kBX7 p).length<=bc/\Below w0.heap.size w0 w'):=fun w0 g=>De cp p w0 (k7.keep g)
   clear e1 e2 e3 e4 k7 k8 k9 o;generalize kBN7 p=N at *;generalize kBX7 p=X at *;generalize kOk7 p=ok at *;go_enter func117,ntmps117
   go_wp2_with (refine bE w.heap.size _ (by rfl) rfl B0 underlying63 HL.out ?_);refine mr (ZE.out _ bw) fun w1 hb=>?_;replace B0:=B0.kept hb;replace B2:=B2.kept hb
   replace bw:=bg bw hb;clear hb;obtain⟨c0,p1,p2,p3⟩:=parts l4.out l9.out B0;go_wp2_with (refine aR w.heap.size 1 cp (by rfl) rfl p1 underlying55 LP.out ?_);refine(C.out _ bw).mono ?_
   rintro e w2 ⟨bo,bc,rfl,hx,hbc,hb⟩;replace bw:=bg bw hb;replace B2:=B2.kept hb;clear hb C ZE B0 c0 p1 p2 p3;have hne:=hx.apart B2 (by intro v hv n;simp at hv;rcases hv with rfl | rfl<;>simp)
   go_wp2_with (refine aJ (w.heap.size+1) _ [.int .i64 N,.slice bo X.length bc] rfl rfl B2 rfl eM (by simp[Value.oneCell']) ?_);intro w3 B3 O3
   have HZ:Hid (aa w3 (w.heap.size+1) [.int .i64 N,.slice bo X.length bc] 53/\Wd w3 bo X/\Below w.heap.size w w3):=⟨B3,O3.wd hx hne,bw.trans (O3.below (Nat.le_succ _))⟩;clear B3 O3 B2 hx hne;go_wp2
   (try simp only[Exit.inBlock,Exit.then]);exact bodyPost_ret (bj rfl (w.heap.size+1) _ rfl HZ.out.1 underlying53 eM) rfl ⟨bo,bc,rfl,HZ.out.2.1,hbc,HZ.out.2.2⟩
  by_cases q8:K=2
  .subst q8;obtain⟨e1,e2,e3,e4⟩:=gc o;rw[e1,e2,e3]
   have C:Hid (∀w0,Below w.heap.size w w0->Calls prog 169 #[.agg cr.toArray] w0 fun e w'=>∃bo bc,e=.returned (.tuple #[.agg #[.int .i64 (kBN8 r),.slice bo (kBX8 r).length bc],.bool (kOk8 r)])/\Wd w' bo (kBX8 r)/\(kBX8 r).length<=bc/\Below w0.heap.size w0 w'):=fun w0 g=>tW cr r w0 (k8.keep g)
   clear e1 e2 e3 e4 k7 k8 k9 o;generalize kBN8 r=N at *;generalize kBX8 r=X at *;generalize kOk8 r=ok at *;go_enter func117,ntmps117
   go_wp2_with (refine bE w.heap.size _ (by rfl) rfl B0 underlying63 HL.out ?_);refine mr (ZE.out _ bw) fun w1 hb=>?_;replace B0:=B0.kept hb;replace B2:=B2.kept hb
   replace bw:=bg bw hb;clear hb;obtain⟨c0,p1,p2,p3⟩:=parts l4.out l9.out B0;go_wp2_with (refine aR w.heap.size 5 cr (by rfl) rfl p2 underlying59 LR.out ?_);refine(C.out _ bw).mono ?_
   rintro e w2 ⟨bo,bc,rfl,hx,hbc,hb⟩;replace bw:=bg bw hb;replace B2:=B2.kept hb;clear hb C ZE B0 c0 p1 p2 p3;have hne:=hx.apart B2 (by intro v hv n;simp at hv;rcases hv with rfl | rfl<;>simp)
   go_wp2_with (refine aJ (w.heap.size+1) _ [.int .i64 N,.slice bo X.length bc] rfl rfl B2 rfl eM (by simp[Value.oneCell']) ?_);intro w3 B3 O3
   have HZ:Hid (aa w3 (w.heap.size+1) [.int .i64 N,.slice bo X.length bc] 53/\Wd w3 bo X/\Below w.heap.size w w3):=⟨B3,O3.wd hx hne,bw.trans (O3.below (Nat.le_succ _))⟩;clear B3 O3 B2 hx hne;go_wp2
   (try simp only[Exit.inBlock,Exit.then]);exact bodyPost_ret (bj rfl (w.heap.size+1) _ rfl HZ.out.1 underlying53 eM) rfl ⟨bo,bc,rfl,HZ.out.2.1,hbc,HZ.out.2.2⟩
  by_cases q9:K=3
  .subst q9;obtain⟨e1,e2,e3,e4⟩:=fV o;rw[e1,e2,e3]
   have C:Hid (∀w0,Below w.heap.size w w0->Calls prog 170 #[.agg cf.toArray] w0 fun e w'=>∃bo bc,e=.returned (.tuple #[.agg #[.int .i64 (kBN9 f),.slice bo (kBX9 f).length bc],.bool (kOk9 f)])/\Wd w' bo (kBX9 f)/\(kBX9 f).length<=bc/\Below w0.heap.size w0 w'):=fun w0 g=>w_ cf f w0 (k9.keep g)
   clear e1 e2 e3 e4 k7 k8 k9 o;generalize kBN9 f=N at *;generalize kBX9 f=X at *;generalize kOk9 f=ok at *;go_enter func117,ntmps117
   go_wp2_with (refine bE w.heap.size _ (by rfl) rfl B0 underlying63 HL.out ?_);refine mr (ZE.out _ bw) fun w1 hb=>?_;replace B0:=B0.kept hb;replace B2:=B2.kept hb
   replace bw:=bg bw hb;clear hb;obtain⟨c0,p1,p2,p3⟩:=parts l4.out l9.out B0;go_wp2_with (refine aR w.heap.size 14 cf (by rfl) rfl p3 underlying61 LF.out ?_);refine(C.out _ bw).mono ?_
   rintro e w2 ⟨bo,bc,rfl,hx,hbc,hb⟩;replace bw:=bg bw hb;replace B2:=B2.kept hb;clear hb C ZE B0 c0 p1 p2 p3;have hne:=hx.apart B2 (by intro v hv n;simp at hv;rcases hv with rfl | rfl<;>simp)
   go_wp2_with (refine aJ (w.heap.size+1) _ [.int .i64 N,.slice bo X.length bc] rfl rfl B2 rfl eM (by simp[Value.oneCell']) ?_);intro w3 B3 O3
   have HZ:Hid (aa w3 (w.heap.size+1) [.int .i64 N,.slice bo X.length bc] 53/\Wd w3 bo X/\Below w.heap.size w w3):=⟨B3,O3.wd hx hne,bw.trans (O3.below (Nat.le_succ _))⟩;clear B3 O3 B2 hx hne;go_wp2
   (try simp only[Exit.inBlock,Exit.then]);exact bodyPost_ret (bj rfl (w.heap.size+1) _ rfl HZ.out.1 underlying53 eM) rfl ⟨bo,bc,rfl,HZ.out.2.1,hbc,HZ.out.2.2⟩
  obtain⟨e1,e2,e3,e4⟩:=fU (a:=⟨K,p,r,f⟩) (by rw[o];exact q7) (by rw[o];exact q8) (by rw[o];exact q9);rw[e1,e2,e3];have d7:(K==1)=false:=by simp[q7]
  have d8:(K==2)=false:=by simp[q8]
  have d9:(K==3)=false:=by simp[q9]
  clear e1 e2 e3 e4 o k7 k8 k9;go_enter func117,ntmps117;go_wp2_with (refine bE w.heap.size _ (by rfl) rfl B0 underlying63 HL.out ?_);refine mr (ZE.out _ bw) fun w1 hb=>?_
  replace B0:=B0.kept hb;replace B2:=B2.kept hb;replace bw:=bg bw hb;clear hb;obtain⟨c0,p1,p2,p3⟩:=parts l4.out l9.out B0
  go_wp2_with (refine aJ (w.heap.size+1) _ [.int .i64 0,.slice none 0 0] rfl rfl B2 rfl eM (by simp[Value.oneCell']) ?_);intro w3 B3 O3
  have HZ:Hid (aa w3 (w.heap.size+1) [.int .i64 0,.slice none 0 0] 53/\Below w.heap.size w w3):=⟨B3,bw.trans (O3.below (Nat.le_succ _))⟩;clear B3 O3 B2 B0 c0 p1 p2 p3;go_wp2
  (try simp only[Exit.inBlock,Exit.then]);exact bodyPost_ret (bj rfl (w.heap.size+1) _ rfl HZ.out.1 underlying53 eM) rfl ⟨none,0,rfl,cE _ _,Nat.le_refl _,HZ.out.2⟩
theorem pM:(prog.info? 53).map (·.size)=some 2:=by kernel_rfl
theorem yL(cs:List Value)(IL:Hid ((prog.info? 63).map (·.size)=some cs.length))(ok:Bool)(N:Int)(X:List Nat)(w:World)(hf:aA X)(hck:ok=true->az N X=true)(C1:Hid (∀w0,Below w.heap.size w w0->Calls prog 117 #[.agg cs.toArray] w0 fun e w'=>∃bo bc,e=.returned (.tuple #[.agg #[.int .i64 N,.slice bo X.length bc],.bool ok])/\Wd w' bo X/\X.length<=bc/\Below w0.heap.size w0 w')):
  Qq 70 #[.agg cs.toArray] w (.bool ok):=by
 have bW:Below w.heap.size w (w.alloc (.cells cs.toArray 63)):=below_alloc w _;have BX:=aa.new w cs 63;go_enter func70,ntmps70
 go_wp2_with (refine bE w.heap.size cs (by rfl) rfl BX underlying63 IL.out ?_);refine(C1.out _ bW).mono ?_;rintro e w1 ⟨bo,bc,rfl,hx,hbc,hb⟩;have bw1:=bg bW hb;clear hb C1 BX
 have bA:=below_alloc w1 (.cells #[.int .i64 N,.slice bo X.length bc] 53);have bw2:=bg bw1 bA;go_wp2;go_ret;exact⟨rfl,bw2⟩
theorem yN(cs:List Value)(IL:Hid ((prog.info? 63).map (·.size)=some cs.length))(ok:Bool)(N:Int)(X:List Nat)(w:World)(hf:aA X)(hck:ok=true->az N X=true)(C1:Hid (∀w0,Below w.heap.size w w0->Calls prog 117 #[.agg cs.toArray] w0 fun e w'=>∃bo bc,e=.returned (.tuple #[.agg #[.int .i64 N,.slice bo X.length bc],.bool ok])/\Wd w' bo X/\X.length<=bc/\Below w0.heap.size w0 w')):
  Calls prog 121 #[.agg cs.toArray] w fun e w'=>∃bo bc,e=.returned (.agg #[.int .i64 N,.slice bo X.length bc])/\Wd w' bo X/\X.length<=bc/\Below w.heap.size w w':=by
 have bW:Below w.heap.size w ((w.alloc (.cells cs.toArray 63)).alloc (.cells #[.int .i64 0,.slice none 0 0] 53)):=(below_alloc w _).alloc (by simp) _
 have BX:aa ((w.alloc (.cells cs.toArray 63)).alloc (.cells #[.int .i64 0,.slice none 0 0] 53)) w.heap.size cs 63:=(aa.new w cs 63).alloc _
 have B2:aa ((w.alloc (.cells cs.toArray 63)).alloc (.cells #[.int .i64 0,.slice none 0 0] 53)) (w.heap.size+1) [.int .i64 0,.slice none 0 0] 53:=aa.new2 w _ _ _;go_enter func121,ntmps121
 go_wp2_with (refine bE w.heap.size cs (by rfl) rfl BX underlying63 IL.out ?_);refine(C1.out _ bW).mono ?_;rintro e w1 ⟨bo,bc,rfl,hx,hbc,hb⟩;have bw1:=bg bW hb
 have z2:w.heap.size+1<w1.heap.size:=Nat.lt_of_lt_of_le B2.lt hb.size;replace B2:=B2.kept hb;have bA:=below_alloc w1 (.cells #[.int .i64 N,.slice bo X.length bc] 53);replace B2:=B2.kept bA;have hx2:=hx.keep bA
 have bw2:=bg bw1 bA;have D1:=aa.new w1 [.int .i64 N,.slice bo X.length bc] 53;have hne:=hx2.apart B2 (by intro v hv n;simp at hv;rcases hv with rfl | rfl<;>simp)
 go_wp2_with (first | refine fE w1.heap.size _ rfl D1 underlying53 pM ?_ | refine aJ (w.heap.size+1) _ _ rfl rfl B2 rfl pM (by simp[Value.oneCell']) ?_);intro w3 B3 O3
 have HZ:Hid (aa w3 (w.heap.size+1) [.int .i64 N,.slice bo X.length bc] 53/\Wd w3 bo X/\Below w.heap.size w w3):=⟨B3,O3.wd hx2 hne,bw2.trans (O3.below (Nat.le_succ _))⟩;clear B3 O3 hx hx2 hb B2 D1 BX;go_wp2
 (try simp only[Exit.inBlock,Exit.then]);exact bodyPost_ret (fZ rfl (w.heap.size+1) _ rfl HZ.out.1 underlying53 pM) rfl ⟨bo,bc,rfl,HZ.out.2.1,hbc,HZ.out.2.2⟩
end Go.Proofs.YtleegaihbgbcjabGreatDoor
