import Derived.Test.YtleegaihbgbcjabGreatDoorT07
set_option linter.unusedVariables false
set_option linter.unusedSimpArgs false
set_option maxRecDepth 100000
set_option maxHeartbeats 16000000
open Go.Proofs.Tryz
namespace Go.Proofs.YtleegaihbgbcjabGreatDoor
open Go.RowKit Num Bit
theorem wt(l:List Nat)(v q:Nat)(h:q<l.length):hiP (l.take (q+1)) v=hiP (l.take q) v++[gt l q/2^v+q]:=by
 have e1:(l.take (q+1)).length=q+1:=by rw[List.length_take];omega
 have e2:(l.take q).length=q:=by rw[List.length_take];omega
 unfold hiP;rw[e1,e2,List.range_succ,List.map_append];congr 1
 .refine List.map_congr_left fun i hi=>?_;have hi:=List.mem_range.1 hi;rw[oY l (q+1) i (by omega),oY l q i hi]
 .simp only[List.map_cons,List.map_nil];rw[oY l (q+1) q (by omega)]
theorem Fh(l:List Nat)(v q:Nat)(hv:0<v)(h:q<l.length):loP (l.take (q+1)) v=loP (l.take q) v++[gt l q%2^v]:=by
 unfold loP;rw[if_neg (by omega),if_neg (by omega),nL l q h,List.map_append];rfl
theorem ye(l:List Nat)(x:Nat):wv l++[.int .u64 (x:Int)]=wv (l++[x]):=by simp[wv]
theorem vV:(prog.info? 4).map (fun i=>(i.zero,i.size,i.bytes))=some (some (.bool false),1,1):=by kernel_rfl
theorem gq:(prog.info? 61).map (·.size)=some 8:=by kernel_rfl
theorem vT:(prog.info? 57).map (·.size)=some 4:=by kernel_rfl
theorem jr:(prog.info? 53).map (·.size)=some 2:=by kernel_rfl
theorem sP{w:World}{base n c:Nat}{ao:Option Addr}{l:List Nat}(h:w.ownsRow base 126 1 (.slice ao n c) n (wv l)):Wd w ao l:=by
 intro h0;have hlen:(wv l).length=n*1:=h.1;have hl:l.length=n:=by simp[wv]at hlen;omega
 have hk:=fun k hk=>h.lt k hk;have hc:=fun g hg=>h.cells (g:=g) hg;obtain⟨_,⟨e,e2⟩ | ⟨g,cap,cur,e,_⟩⟩:=h
 .omega
 .simp only[Value.slice.injEq]at e;obtain⟨rfl,_,rfl⟩:=e;refine⟨g,0,rfl,(hk g rfl).2,fun i hi=>?_⟩
  have hu:(wv l)[i]?=some (.int .u64 (gt l i)):=by
   unfold wv gt;rw[List.getElem?_map,List.getD_eq_getElem?_getD,List.getElem?_eq_getElem hi];rfl
  rw[<-hc g rfl i _ hu];unfold Addr.add;split
  .subst_vars;rfl
  .simp
theorem uC(n:Nat)(lo:Option Addr)(l:List Nat)(lc:Nat)(w:World)(hN:Nd w lo (lz l))(hr:br l n)(hn:n<=3000):
  Calls prog 111 #[.int .i64 n,.slice lo l.length lc] w fun e w'=>∃bo bc qo qc,e=.returned (.tuple #[.agg #[.int .i64 (aG n l).N,.int .i64 (aG n l).M,.int .i64 (aG n l).k,.int .i64 (aG n l).V,.int .i64 (aG n l).LM,.slice bo (aG n l).xs.length bc,.int .i64 (aG n l).H,.slice qo (aG n l).ys.length qc],.int .i64 0])/\(Wd w' bo (aG n l).xs/\(aG n l).xs.length<=bc/\Wd w' qo (aG n l).ys/\(aG n l).ys.length<=qc)/\Below w.heap.size w w':=by
 have hl:=hr.len;have hw20:=gD n l.length (by omega);obtain⟨i4,hi4,za4,zb4,zc4⟩:=info_parts vV;obtain⟨i6,hi6,za6,zb6,zc6⟩:=info_parts Tryz.info126
 obtain⟨v,hv⟩:∃v,Hid (v=wdF n l.length):=⟨_,rfl⟩;have v20:v<=20:=by rw[hv.out];exact hw20
 obtain⟨E,hE⟩:∃E,Hid (E=n/2^v):=⟨_,rfl⟩;have lE:E<=3000:=by rw[hE.out];exact Nat.le_trans (Nat.div_le_self _ _) hn
 have sE:(n:Int)/2^v=(E:Int):=by rw[hE.out,Int.natCast_ediv,Int.natCast_pow];rfl
 have hHn:Hid (l.length+E+1=hiN l n v):=by show _=_;unfold hiN;rw[hE.out]
 have WC:Hid (∀w0,Qq 164 #[.int .i64 n,.int .i64 l.length] w0 (.int .i64 v)):=fun w0=>by
  have:=wZ n l.length (by omega) hl w0;rw[<-hv.out]at this;exact this
 have v64:(v:Int)<64:=by omega
 obtain⟨W,hW⟩:∃W,W=w.alloc (.cells #[.int .i64 0,.int .i64 0,.int .i64 0,.int .i64 0,.int .i64 0,.slice none 0 0,.int .i64 0,.slice none 0 0] 61):=⟨_,rfl⟩;have bW:=aU hW;have B4:=bn hW
 go_enter func111,ntmps111;go_wp2_with fail;rw[<-hW];clear hW;refine mr (WC.out _) fun w1 hb=>?_;have bw1:=bg bW hb;replace B4:=B4.kept hb;clear hb WC bW W
 go_wp2_with (at_make;refine wpList_make_full _ rfl _ _ 73 rfl (w1.heap.size+1) 4 i4 (.bool false) 1 underlying73 hi4 za4 zb4 .i64 .i64 _ _ (l.length+E+1) rfl rfl rfl rfl ?b2 ?b3 ?b4 ?_)
 case b2=>rw[zc4];omega
 case b3=>unfold maxLen;omega
 case b4=>simp
 intro w2 hown hgr;have hH:=xO hown
 have bG:Below (w1.heap.size+1) (w1.alloc (.cells #[.int .i64 n,.int .i64 l.length,.int .i64 0,.int .i64 0,.int .i64 0,.slice none 0 0,.int .i64 0,.slice none 0 0] 61)) w2:=(Below.refl _ _).grown hgr (by simp) (fun k h=>by cases h)
 have B7:aa w2 w1.heap.size [.int .i64 n,.int .i64 l.length,.int .i64 0,.int .i64 0,.int .i64 0,.slice none 0 0,.int .i64 0,.slice none 0 0] 61:=(aa.new w1 _ _).keep bG (Nat.lt_succ_self _)
 have bw2:Below w.heap.size w w2:=(bw1.trans ((below_alloc w1 _).mono bw1.size)).trans (bG.mono (Nat.le_succ_of_le bw1.size));have z4:=B4.lt
 replace B4:=(B4.kept (below_alloc w1 (.cells #[.int .i64 n,.int .i64 l.length,.int .i64 0,.int .i64 0,.int .i64 0,.slice none 0 0,.int .i64 0,.slice none 0 0] 61))).keep bG (Nat.lt_succ_of_lt z4);clear hown hgr bG bw1
 go_wp2;generalize w1.heap.size=g7 at *;clear w1
 go_loopw [9,10] (fun lv_ iv_ wr=>∃q:Nat,q<=l.length/\iv_=.int .i64 q/\aa wr (g7+1) (dO (l.length+E+1) (isIn (hiP (l.take q) v))) 4/\wr.ownsRow (g7+2) 126 1 lv_ (loP (l.take q) v).length (wv (loP (l.take q) v))/\aa wr w.heap.size [.int .i64 0,.int .i64 0,.int .i64 0,.int .i64 0,.int .i64 0,.slice none 0 0,.int .i64 0,.slice none 0 0] 61/\aa wr g7 [.int .i64 n,.int .i64 l.length,.int .i64 0,.int .i64 0,.int .i64 0,.slice none 0 0,.int .i64 0,.slice none 0 0] 61/\Below w.heap.size w wr) (fun _ iv_ _=>l.length-(intOf iv_).toNat)
 case atStart=>exact⟨0,Nat.zero_le _,rfl,hH,by rw[show loP (l.take 0) v=[]by unfold loP;split<;>simp];exact World.ownsRow_nil _ _ _ _,B4,B7,bw2⟩
 case round=>
  obtain⟨q,hq,rfl,hB,hown,b4,b7,hwr⟩:=hrel;clear hH B4 B7 bw2;obtain⟨so,sc,rfl,hsc, -⟩:=Ap.owns_shape hown;by_cases hlt:q<l.length
  .have hlt2:(q:Int)<(l.length:Int):=by omega
   obtain⟨b,off,rfl,hbl,hcel⟩:=hN (by rw[gj];omega);have cq0:=hcel q (by rw[gj];exact hlt);rw[kI]at cq0;have cq:=(hwr.cell (p:=⟨b,off+q,none⟩) hbl).trans cq0;have xl:=hr.1 q hlt
   obtain⟨x,hx⟩:∃x,Hid (x=gt l q):=⟨_,rfl⟩;rw[<-hx.out]at cq cq0 xl;obtain⟨d,hd⟩:∃d,Hid (d=x/2^v):=⟨_,rfl⟩
   have sd:(x:Int)/2^v=(d:Int):=by rw[hd.out,Int.natCast_ediv,Int.natCast_pow];rfl
   have dE:d<=E:=by rw[hd.out,hE.out];exact Nat.div_le_div_right (Nat.le_of_lt xl)
   have jH:(d:Int)+(q:Int)<(l.length:Int)+(E:Int)+1:=by omega
   have jH2:d+q<l.length+E+1:=by omega
   have jn:((d:Int)+(q:Int)).toNat=d+q:=by omega
   have cj:=hB.cell (d+q) (nq _ _ _ jH2);have fj:=hB.frozen (d+q);have st:=hB.set (d+q) (.bool true);rw[xB]at st
   have HS:Hid (aa (wr.setCell ⟨g7+1,d+q,none⟩ (.bool true)) (g7+1) (dO (l.length+E+1) (isIn (hiP (l.take (q+1)) v))) 4):=by
    show aa _ _ _ _;rw[wt l v q hlt,rP _ (isIn (hiP (l.take q) v++[gt l q/2^v+q])) _ (fun i _=>oR _ _ _),<-hx.out,<-hd.out];exact st
   have O1:aB (g7+1) wr (wr.setCell ⟨g7+1,d+q,none⟩ (.bool true)):=(aB.refl _ _).set _ _;have own1:=O1.owns hown (Nat.lt_succ_self _);have c4:=O1.cel b4 (by omega);have c7:=O1.cel b7 (by omega)
   have hw1:=hwr.trans (O1.below (by omega));clear st hB hown b4 b7 O1;by_cases hv0:v=0
   .have nv1:¬(0:Int)<(v:Int):=by omega
    have nv2:¬0<v:=by omega
    have HO:Hid ((wr.setCell ⟨g7+1,d+q,none⟩ (.bool true)).ownsRow (g7+2) 126 1 (.slice so (loP (l.take q) v).length sc) (loP (l.take (q+1)) v).length (wv (loP (l.take (q+1)) v))):=by
     have e:∀q,loP (l.take q) v=[]:=fun q=>by rw[hv0];rfl
     rw[e]at own1;show(wr.setCell _ _).ownsRow _ _ _ _ _ _;rw[e,e];exact own1
    clear own1 hv0;go_wp2;exact⟨⟨q+1,by omega,by go_num,HS.out,HO.out,c4,c7,hw1⟩,by simp only[intOf];omega⟩
   .have nv1:(0:Int)<(v:Int):=by omega
    have nv2:0<v:=by omega
    obtain⟨y,hy⟩:∃y,Hid (y=x%2^v):=⟨_,rfl⟩;obtain⟨P2,hP2⟩:∃P2:Nat,Hid (P2=2^v):=⟨2^v,(rfl:2^v=2^v)⟩
    have pw:IntKind.u64.wrap ((2:Int)^v)=(P2:Int):=by rw[Bit.shl_one v (by omega),hP2.out]
    have p0:((P2:Int)==0)=false:=by have:=Nat.two_pow_pos v;rw[<-hP2.out]at this;simp;omega
    have p1:¬(P2:Int)=0:=by have:=Nat.two_pow_pos v;rw[<-hP2.out]at this;omega
    have ym:(x:Int)%(P2:Int)=(y:Int):=by rw[hy.out,<-hP2.out];omega
    have yt:(x:Int).tmod (P2:Int)=(y:Int):=by rw[Int.tmod_eq_emod_of_nonneg (by omega)];exact ym
    have yl:y<=x:=by rw[hy.out];exact Nat.mod_le _ _
    have hlen:(loP (l.take q) v).length=q:=by rw[jm _ _ nv2,List.length_take];omega
    have HLL:Hid ((loP (l.take q) v).length=q):=hlen;have HT:Hid (loP (l.take (q+1)) v=loP (l.take q) v++[y]):=by show _=_;rw[Fh l v q nv2 hlt,hy.out,hx.out]
    obtain⟨V1,hV1⟩:∃V1,V1=wr.setCell ⟨g7+1,d+q,none⟩ (.bool true):=⟨_,rfl⟩;rw[<-hV1]at HS own1 c4 c7 hw1;generalize loP (l.take q) v=L at *;have bA:=below_alloc V1 (.cells #[.int .u64 (y:Int)] 126)
    have own3:=Ap.owns_below own1 bA;have src3:(V1.alloc (.cells #[.int .u64 (y:Int)] 126)).cell? ⟨V1.heap.size,0,none⟩=some (.int .u64 (y:Int)):=(aa.new V1 [.int .u64 (y:Int)] 126).cell 0 rfl
    have k4:=c4.kept bA;have k7:=c7.kept bA;have kS:=HS.out.kept bA;have g3:g7+2<=(V1.alloc (.cells #[.int .u64 (y:Int)] 126)).heap.size:=kS.lt;have hw3:=bg hw1 bA
    have cqV:=(hw1.cell (p:=⟨b,off+q,none⟩) hbl).trans cq0;clear own1 c4 c7 hw1 HS bA hlen;go_upto_if 50 with fail
    rw[<-hV1];clear hV1 cj fj cq cq0
    go_wp2_with (at_builtin;refine Ap.wpList_append_u rfl _ _ 51 rfl (g7+2) 126 i6 (.int .u64 0) 8 underlying51 hi6 za6 zb6 zc6 rfl (.slice so L.length sc) L.length (wv L) rfl own3 (some ⟨V1.heap.size,0,none⟩) 1 1 [.int .u64 (y:Int)] rfl rfl ?d1 ?d2 ?d3 ?d4 ?d5 ?_)
    case d1=>exact fun _=>⟨_,rfl,fun j u hj=>by
     match j,hj with
     | 0,hj=>simp at hj;subst hj;exact src3⟩
    case d2=>intro u hu;simp at hu;subst hu;rfl
    case d3=>have:=HLL.out;unfold maxLen;omega
    case d4=>have:=HLL.out;omega
    case d5=>exact g3
    intro to_ tc_ w4 own4 hle4 hB4;rw[ye]at own4
    have HO:Hid (w4.ownsRow (g7+2) 126 1 (.slice to_ (L.length+1) tc_) (loP (l.take (q+1)) v).length (wv (loP (l.take (q+1)) v))):=by
     show w4.ownsRow _ _ _ _ _ _;rw[HT.out,List.length_append];exact own4
    have m4:=k4.keep hB4 (by omega);have m7:=k7.keep hB4 (by omega);have mS:=kS.keep hB4 (by omega);have hw4:=hw3.trans (hB4.mono (by omega));clear own4 own3 hB4 k4 k7 kS hw3 src3 g3 HT
    have HF:=Hid.mk9 (And.intro mS (And.intro HO.out (And.intro m4 (And.intro m7 hw4))));clear mS HO m4 m7 hw4;go_wp2
    exact⟨⟨q+1,by omega,by go_num,HF.out.1,HF.out.2.1,HF.out.2.2.1,HF.out.2.2.2.1,HF.out.2.2.2.2⟩,by simp only[intOf];omega⟩
  .obtain rfl:q=l.length:=by omega
   rw[List.take_of_length_le (Nat.le_refl l.length)]at hown hB hsc⊢;obtain⟨L,hL⟩:∃L,Hid (L=loP l v):=⟨_,rfl⟩;obtain⟨Hn,hHd⟩:∃Hn,Hid (Hn=hiN l n v):=⟨_,rfl⟩
   obtain⟨X,hX⟩:∃X,Hid (X=mkS L (max v 1) L.length):=⟨_,rfl⟩;obtain⟨Y,hY⟩:∃Y,Hid (Y=rowOf Hn (isIn (hiP l v))):=⟨_,rfl⟩;rw[<-hL.out]at hown hsc⊢
   have hHE:l.length+E+1=Hn:=by rw[hHd.out];exact hHn.out
   have lHn:Hn<=6001:=by omega
   have cHn:(l.length:Int)+(E:Int)+1=(Hn:Int):=by omega
   rw[hHE]at hB⊢;have lL:L.length<=3000:=by have:=mR l v;rw[<-hL.out]at this;omega
   have ltv:∀i,gt L i<2^(max v 1):=fun i=>by rw[hL.out];exact oG l v i
   have fitL:aA L:=fun i=>by
    have h1:=ltv i;have:2^(max v 1)<=2^20:=Nat.pow_le_pow_right (by decide) (by omega);omega
   have ltN:∀j,j<L.length->bI (gt L j)<=((max v 1:Nat):Int):=fun j _=>by
    have:=iM (gt L j) (max v 1) (ltv j);unfold bI;rw[Int.toNat_natCast];omega
   have hWd:=sP hown
   have FR:Hid (∀w0:World,aa w0 (g7+1) (dO Hn (isIn (hiP l v))) 4->Calls prog 33 #[.slice (some ⟨g7+1,0,none⟩) Hn Hn] w0 fun e w'=>∃g,e=.returned (.tuple #[.agg #[.int .i64 Hn,.slice (some ⟨g,0,none⟩) Y.length Y.length],.int .i64 0])/\w0.heap.size<=g/\Own w' g Y/\Below w0.heap.size w0 w'):=fun w0 h=>by
    have hlen:(fY Hn (isIn (hiP l v))).length=Hn:=by simp[fY]
    have h3:=lh (some ⟨g7+1,0,none⟩) (fY Hn (isIn (hiP l v))) Hn _ w0 (xG h) (by rw[hlen];omega) rfl;rw[mc]at h3
    have e6:aC (fY Hn (isIn (hiP l v)))=Y:=by
     rw[hY.out];unfold aC;rw[hlen];refine da Hn _ _ fun i hi=>?_;unfold bt fY;rw[List.getD_eq_getElem?_getD,List.getElem?_map,List.getElem?_range hi];rfl
    have e5:Y.length=(Hn+63)/64:=by rw[hY.out];exact cM _ _
    rw[hlen,e6]at h3;rw[e5];exact h3
   clear hHE hown;by_cases hv0:v=0
   .skip;have ltL:∀j,j<L.length->bI (gt L j)<=1:=fun j hj=>by have:=ltN j hj;omega
    have c1:(v:Int)<1:=by omega
    have c2:v<1:=by omega
    have c3:(v:Int)<=1:=by omega
    have c4:max (v:Int) 1=1:=by omega
    clear ltN ltv
    have EA:Hid ((aG n l).N=(n:Int)/\(aG n l).M=(l.length:Int)/\(aG n l).k=(L.length:Int)/\(aG n l).V=1/\(aG n l).LM=(L.length:Int)/\(aG n l).xs=X/\(aG n l).H=(Hn:Int)/\(aG n l).ys=Y):=by
     refine⟨rfl,rfl,?_,?_,?_,?_,?_,?_⟩
     .show((loP l (wdF n l.length)).length:Int)=_;rw[<-hv.out,<-hL.out]
     .show((max (wdF n l.length) 1:Nat):Int)=1;rw[<-hv.out];omega
     .show((loP l (wdF n l.length)).length:Int)*((max (wdF n l.length) 1:Nat):Int)=(L.length:Int);rw[<-hv.out,<-hL.out,show((max v 1:Nat):Int)=1 by omega];exact Int.mul_one _
     .show mkS (loP l (wdF n l.length)) (max (wdF n l.length) 1) (loP l (wdF n l.length)).length=X;rw[<-hv.out,<-hL.out,hX.out]
     .show((hiN l n (wdF n l.length):Nat):Int)=_;rw[<-hv.out,<-hHd.out]
     .show rowOf (hiN l n (wdF n l.length)) (isIn (hiP l (wdF n l.length)))=Y;rw[<-hv.out,<-hHd.out,hY.out]
    have MK:Hid (∀w0,Wd w0 so L->Calls prog 110 #[.int .i64 1,.slice so L.length sc] w0 fun e w'=>∃bo dap,e=.returned (.tuple #[.agg #[.int .i64 L.length,.int .i64 1,.int .i64 (L.length:Int),.slice bo X.length dap],.int .i64 0])/\nG w0 w' bo X dap):=fun w0 h=>by
     have h3:=qd 1 so L sc w0 h fitL (by omega)
     have e0:cd 1 L=0:=by
      unfold cd;rw[if_neg];rintro(c | c | c | c)
      .omega
      .omega
      .have:=Nat.mul_le_mul lL v20;have:(L.length:Int)*(v:Int)<=60000:=by rw[<-Int.natCast_mul];omega
       omega
      .exact c ltL
     have e1:iD 1 L=(L.length:Int):=by unfold iD;rw[if_pos e0]
     have e2:iC 1 L=1:=by unfold iC;rw[if_pos e0]
     have e3:iE 1 L=(L.length:Int):=by unfold iE;rw[if_pos e0];exact Int.mul_one _
     have e4:gu 1 L=X:=by unfold gu;rw[if_pos e0,hX.out,show max v 1=1 by omega];rfl
     rw[e0,e1,e2,e3,e4]at h3;exact h3
    clear hL hX hY hHd hv0;have lb7:=b7.lt;have lb4:=b4.lt;go_wp2_with fail;refine(MK.out _ hWd).mono ?_;rintro e w5 ⟨bo,dap,rfl,h5X, -,h5l,h5n,hb⟩;replace hB:=hB.kept hb;replace b4:=b4.kept hb
    replace b7:=b7.kept hb;replace hwr:=bg hwr hb;clear hb MK hWd
    obtain⟨V5,hV5⟩:∃V5,V5=w5.alloc (.cells #[.int .i64 L.length,.int .i64 1,.int .i64 (L.length:Int),.slice bo X.length dap] 57):=⟨_,rfl⟩;have bA:Below w5.heap.size w5 V5:=by rw[hV5];exact below_alloc w5 _
    have D11:aa V5 w5.heap.size [.int .i64 L.length,.int .i64 1,.int .i64 (L.length:Int),.slice bo X.length dap] 57:=by rw[hV5];exact aa.new w5 _ _
    have ne11:g7≠w5.heap.size:=by have:=b7.lt;omega
    have nf11:w.heap.size≠w5.heap.size:=by have:=b4.lt;omega
    replace hB:=hB.kept bA;replace b4:=b4.kept bA;replace b7:=b7.kept bA;replace h5X:=h5X.keep bA;replace hwr:=bg hwr bA;clear bA;go_wp2_with fail;rw[<-hV5];clear hV5;refine(FR.out _ hB).mono ?_
    rintro e w6 ⟨g5,rfl,hg5,hOw,hb⟩;have g5n:g7<g5:=Nat.lt_of_lt_of_le b7.lt hg5;replace D11:=D11.kept hb;replace b4:=b4.kept hb;replace b7:=b7.kept hb;replace h5X:=h5X.keep hb
    replace hwr:=bg hwr hb;have hYd:=hOw.wd;clear hb FR hOw hB hg5;obtain⟨V6,hV6⟩:∃V6,V6=w6.alloc (.cells #[.int .i64 Hn,.slice (some ⟨g5,0,none⟩) Y.length Y.length] 53):=⟨_,rfl⟩
    have bA:Below w6.heap.size w6 V6:=by rw[hV6];exact below_alloc w6 _
    have D13:aa V6 w6.heap.size [.int .i64 Hn,.slice (some ⟨g5,0,none⟩) Y.length Y.length] 53:=by rw[hV6];exact aa.new w6 _ _
    have ne13:g7≠w6.heap.size:=by have:=b7.lt;omega
    replace D11:=D11.kept bA;replace b4:=b4.kept bA;replace b7:=b7.kept bA;replace h5X:=h5X.keep bA;replace hYd:=hYd.keep bA;replace hwr:=bg hwr bA;clear bA;go_upto_region 15 with fail
    rw[<-hV6];clear hV6;generalize w6.heap.size=g13 at *;generalize w5.heap.size=g11 at *
    refine ba [5] (fun w'=>aa w' g11 [.int .i64 L.length,.int .i64 1,.int .i64 (L.length:Int),.slice bo X.length dap] 57/\aa w' g13 [.int .i64 Hn,.slice (some ⟨g5,0,none⟩) Y.length Y.length] 53) (by kernel_rfl) ?_
    have bD:Below V6.heap.size V6 V6.drew:=(Below.refl _ _).drew;have hS:=And.intro (D11.kept bD) (D13.kept bD);replace b4:=b4.kept bD;replace b7:=b7.kept bD;replace h5X:=h5X.keep bD;replace hYd:=hYd.keep bD
    replace hwr:=bg hwr bD;clear bD D11 D13;generalize V6.drew=wd at *
    refine aw.take 0 (v:=.agg [.int .i64 L.length,.int .i64 1,.int .i64 (L.length:Int),.slice bo X.length dap].toArray) rfl (by kernel_rfl) (by kernel_rfl) (by kernel_rfl) (by kernel_rfl) (fun _ _ _ h=>h) hS ?hy1 (by rfl) ?rest1
    case hy1=>
     intro w0 h0;exact k6 g11 [.int .i64 L.length,.int .i64 1,.int .i64 (L.length:Int),.slice bo X.length dap] rfl h0.1 underlying57 vT
    try simp only[Act.put,ah,aj,ai]
    refine aw.take 1 (v:=.agg [.int .i64 Hn,.slice (some ⟨g5,0,none⟩) Y.length Y.length].toArray) rfl (by kernel_rfl) (by kernel_rfl) (by kernel_rfl) (by kernel_rfl) (fun _ _ _ h=>h) hS ?hy2 (by rfl) ?rest2
    case hy2=>
     intro w0 h0;exact k6 g13 [.int .i64 Hn,.slice (some ⟨g5,0,none⟩) Y.length Y.length] rfl h0.2 underlying53 jr
    try simp only[Act.put,ah,aj,ai]
    refine aw.takeW 2 (v:=?vv3) rfl (by kernel_rfl) (by kernel_rfl) (by kernel_rfl) (fun _ _ _ h=>h) ?hy3 (by rfl) ?rest3
    case hy3=>
     intro w0;go_simp;try with_reducible rfl
    try simp only[Act.put,ah,aj,ai]
    refine aO 3 ?_;intro K hK;have x2:=b7.cell 2 rfl;have x3:=b7.cell 3 rfl;have x4:=b7.cell 4 rfl;have x5:=b7.cell 5 rfl;have y2:=b7.frozen 2;have y3:=b7.frozen 3;have y4:=b7.frozen 4;have y5:=b7.frozen 5
    go_simp
    refine hK.out _ _ (fun _=>⟨((((hS.1.other (by show g11≠g7;omega) _).other (by show g11≠g7;omega) _).other (by show g11≠g7;omega) _).other (by show g11≠g7;omega) _),((((hS.2.other (by show g13≠g7;omega) _).other (by show g13≠g7;omega) _).other (by show g13≠g7;omega) _).other (by show g13≠g7;omega) _)⟩) ?_
    clear hK K x2 x3 x4 x5 y2 y3 y4 y5;try simp only[Act.put,ah,aj,ai]
    have O3:aB g7 wd ((((wd.setCell ⟨g7,2,none⟩ (.int .i64 L.length)).setCell ⟨g7,3,none⟩ (.int .i64 1)).setCell ⟨g7,4,none⟩ (.int .i64 (L.length:Int))).setCell ⟨g7,5,none⟩ (.slice bo X.length dap)):=((((aB.refl g7 wd).set 2 _).set 3 _).set 4 _).set 5 _
    have q7:=(((b7.set 2 (.int .i64 L.length)).set 3 (.int .i64 1)).set 4 (.int .i64 (L.length:Int))).set 5 (.slice bo X.length dap)
    generalize ((((wd.setCell ⟨g7,2,none⟩ (.int .i64 L.length)).setCell ⟨g7,3,none⟩ (.int .i64 1)).setCell ⟨g7,4,none⟩ (.int .i64 (L.length:Int))).setCell ⟨g7,5,none⟩ (.slice bo X.length dap))=we at *
    refine aw.takeW 4 (v:=?vv4) rfl (by kernel_rfl) (by kernel_rfl) (by kernel_rfl) (fun _ _ _ h=>h) ?hy4 (by rfl) ?rest4
    case hy4=>
     intro w0;go_simp;try with_reducible rfl
    try simp only[Act.put,ah,aj,ai]
    refine aO 5 ?_;intro K hK;have x6:=q7.cell 6 rfl;have x7:=q7.cell 7 rfl;have y6:=q7.frozen 6;have y7:=q7.frozen 7;go_simp;refine hK.out _ _ (fun h=>absurd (by decide) h) ?_;clear hK K x6 x7 y6 y7
    try simp only[Act.put,ah,aj,ai]
    refine aw.done (by kernel_rfl) ?_ _;have O5:aB g7 wd ((we.setCell ⟨g7,6,none⟩ (.int .i64 Hn)).setCell ⟨g7,7,none⟩ (.slice (some ⟨g5,0,none⟩) Y.length Y.length)):=O3.trans (((aB.refl g7 we).set 6 _).set 7 _)
    have r7:=(q7.set 6 (.int .i64 Hn)).set 7 (.slice (some ⟨g5,0,none⟩) Y.length Y.length)
    generalize ((we.setCell ⟨g7,6,none⟩ (.int .i64 Hn)).setCell ⟨g7,7,none⟩ (.slice (some ⟨g5,0,none⟩) Y.length Y.length))=wf at *;replace b4:=O5.cel b4 (by omega)
    replace h5X:=O5.wd h5X (fun a _ ha=>by have:=h5n a ha;omega);replace hYd:=O5.wd hYd (fun a _ ha=>by cases ha;show g5≠g7;omega);replace hwr:=hwr.trans (O5.below (by omega));clear O3 O5 q7 b7 hS
    have r7b:aa wf g7 [.int .i64 n,.int .i64 l.length,.int .i64 L.length,.int .i64 1,.int .i64 (L.length:Int),.slice bo X.length dap,.int .i64 Hn,.slice (some ⟨g5,0,none⟩) Y.length Y.length] 61:=r7
    go_wp2_with (first | refine fE g7 _ rfl r7b underlying61 gq ?_ | refine aJ w.heap.size _ _ rfl rfl b4 rfl gq (by simp[Value.oneCell']) ?_);intro wg r4 O4
    have HZ:=Hid.mk9 (And.intro r4 (And.intro (O4.wd h5X (fun a _ ha=>by have:=h5n a ha;omega)) (And.intro (O4.wd hYd (fun a _ ha=>by cases ha;show g5≠w.heap.size;omega)) (hwr.trans (O4.below (Nat.le_refl _))))))
    clear r4 O4 b4 h5X hYd hwr r7 r7b;go_wp2
    (try simp only[Exit.inBlock,Exit.then]);refine bodyPost_ret (bj rfl w.heap.size _ rfl HZ.out.1 underlying61 gq) rfl ⟨bo,dap,some ⟨g5,0,none⟩,Y.length,?_,?_,HZ.out.2.2.2⟩
    .rw[EA.out.1,EA.out.2.1,EA.out.2.2.1,EA.out.2.2.2.1,EA.out.2.2.2.2.1,EA.out.2.2.2.2.2.1,EA.out.2.2.2.2.2.2.1,EA.out.2.2.2.2.2.2.2];rfl
    .rw[EA.out.2.2.2.2.2.1,EA.out.2.2.2.2.2.2.2];exact⟨HZ.out.2.1,h5l,HZ.out.2.2.1,Nat.le_refl _⟩
   .skip;have ltL:∀j,j<L.length->bI (gt L j)<=(v:Int):=fun j hj=>by have:=ltN j hj;omega
    have c1:¬(v:Int)<1:=by omega
    have c2:¬v<1:=by omega
    have c3:(1:Int)<=(v:Int):=by omega
    have c4:max (v:Int) 1=(v:Int):=by omega
    clear ltN ltv
    have EA:Hid ((aG n l).N=(n:Int)/\(aG n l).M=(l.length:Int)/\(aG n l).k=(L.length:Int)/\(aG n l).V=(v:Int)/\(aG n l).LM=((L.length:Int)*(v:Int))/\(aG n l).xs=X/\(aG n l).H=(Hn:Int)/\(aG n l).ys=Y):=by
     refine⟨rfl,rfl,?_,?_,?_,?_,?_,?_⟩
     .show((loP l (wdF n l.length)).length:Int)=_;rw[<-hv.out,<-hL.out]
     .show((max (wdF n l.length) 1:Nat):Int)=(v:Int);rw[<-hv.out];omega
     .show((loP l (wdF n l.length)).length:Int)*((max (wdF n l.length) 1:Nat):Int)=((L.length:Int)*(v:Int));rw[<-hv.out,<-hL.out,show((max v 1:Nat):Int)=(v:Int)by omega]
     .show mkS (loP l (wdF n l.length)) (max (wdF n l.length) 1) (loP l (wdF n l.length)).length=X;rw[<-hv.out,<-hL.out,hX.out]
     .show((hiN l n (wdF n l.length):Nat):Int)=_;rw[<-hv.out,<-hHd.out]
     .show rowOf (hiN l n (wdF n l.length)) (isIn (hiP l (wdF n l.length)))=Y;rw[<-hv.out,<-hHd.out,hY.out]
    have MK:Hid (∀w0,Wd w0 so L->Calls prog 110 #[.int .i64 (v:Int),.slice so L.length sc] w0 fun e w'=>∃bo dap,e=.returned (.tuple #[.agg #[.int .i64 L.length,.int .i64 (v:Int),.int .i64 ((L.length:Int)*(v:Int)),.slice bo X.length dap],.int .i64 0])/\nG w0 w' bo X dap):=fun w0 h=>by
     have h3:=qd (v:Int) so L sc w0 h fitL (by omega)
     have e0:cd (v:Int) L=0:=by
      unfold cd;rw[if_neg];rintro(c | c | c | c)
      .omega
      .omega
      .have:=Nat.mul_le_mul lL v20;have:(L.length:Int)*(v:Int)<=60000:=by rw[<-Int.natCast_mul];omega
       omega
      .exact c ltL
     have e1:iD (v:Int) L=(L.length:Int):=by unfold iD;rw[if_pos e0]
     have e2:iC (v:Int) L=(v:Int):=by unfold iC;rw[if_pos e0]
     have e3:iE (v:Int) L=((L.length:Int)*(v:Int)):=by unfold iE;rw[if_pos e0]
     have e4:gu (v:Int) L=X:=by unfold gu;rw[if_pos e0,hX.out,show max v 1=v by omega];rfl
     rw[e0,e1,e2,e3,e4]at h3;exact h3
    clear hL hX hY hHd;have lb7:=b7.lt;have lb4:=b4.lt;go_wp2_with fail;refine(MK.out _ hWd).mono ?_;rintro e w5 ⟨bo,dap,rfl,h5X, -,h5l,h5n,hb⟩;replace hB:=hB.kept hb;replace b4:=b4.kept hb
    replace b7:=b7.kept hb;replace hwr:=bg hwr hb;clear hb MK hWd
    obtain⟨V5,hV5⟩:∃V5,V5=w5.alloc (.cells #[.int .i64 L.length,.int .i64 (v:Int),.int .i64 ((L.length:Int)*(v:Int)),.slice bo X.length dap] 57):=⟨_,rfl⟩
    have bA:Below w5.heap.size w5 V5:=by rw[hV5];exact below_alloc w5 _
    have D11:aa V5 w5.heap.size [.int .i64 L.length,.int .i64 (v:Int),.int .i64 ((L.length:Int)*(v:Int)),.slice bo X.length dap] 57:=by rw[hV5];exact aa.new w5 _ _
    have ne11:g7≠w5.heap.size:=by have:=b7.lt;omega
    have nf11:w.heap.size≠w5.heap.size:=by have:=b4.lt;omega
    replace hB:=hB.kept bA;replace b4:=b4.kept bA;replace b7:=b7.kept bA;replace h5X:=h5X.keep bA;replace hwr:=bg hwr bA;clear bA;go_wp2_with fail;rw[<-hV5];clear hV5;refine(FR.out _ hB).mono ?_
    rintro e w6 ⟨g5,rfl,hg5,hOw,hb⟩;have g5n:g7<g5:=Nat.lt_of_lt_of_le b7.lt hg5;replace D11:=D11.kept hb;replace b4:=b4.kept hb;replace b7:=b7.kept hb;replace h5X:=h5X.keep hb
    replace hwr:=bg hwr hb;have hYd:=hOw.wd;clear hb FR hOw hB hg5;obtain⟨V6,hV6⟩:∃V6,V6=w6.alloc (.cells #[.int .i64 Hn,.slice (some ⟨g5,0,none⟩) Y.length Y.length] 53):=⟨_,rfl⟩
    have bA:Below w6.heap.size w6 V6:=by rw[hV6];exact below_alloc w6 _
    have D13:aa V6 w6.heap.size [.int .i64 Hn,.slice (some ⟨g5,0,none⟩) Y.length Y.length] 53:=by rw[hV6];exact aa.new w6 _ _
    have ne13:g7≠w6.heap.size:=by have:=b7.lt;omega
    replace D11:=D11.kept bA;replace b4:=b4.kept bA;replace b7:=b7.kept bA;replace h5X:=h5X.keep bA;replace hYd:=hYd.keep bA;replace hwr:=bg hwr bA;clear bA;go_upto_region 15 with fail
    rw[<-hV6];clear hV6;generalize w6.heap.size=g13 at *;generalize w5.heap.size=g11 at *
    refine ba [5] (fun w'=>aa w' g11 [.int .i64 L.length,.int .i64 (v:Int),.int .i64 ((L.length:Int)*(v:Int)),.slice bo X.length dap] 57/\aa w' g13 [.int .i64 Hn,.slice (some ⟨g5,0,none⟩) Y.length Y.length] 53) (by kernel_rfl) ?_
    have bD:Below V6.heap.size V6 V6.drew:=(Below.refl _ _).drew;have hS:=And.intro (D11.kept bD) (D13.kept bD);replace b4:=b4.kept bD;replace b7:=b7.kept bD;replace h5X:=h5X.keep bD;replace hYd:=hYd.keep bD
    replace hwr:=bg hwr bD;clear bD D11 D13;generalize V6.drew=wd at *
    refine aw.take 0 (v:=.agg [.int .i64 L.length,.int .i64 (v:Int),.int .i64 ((L.length:Int)*(v:Int)),.slice bo X.length dap].toArray) rfl (by kernel_rfl) (by kernel_rfl) (by kernel_rfl) (by kernel_rfl) (fun _ _ _ h=>h) hS ?hy5 (by rfl) ?rest5
    case hy5=>
     intro w0 h0;exact k6 g11 [.int .i64 L.length,.int .i64 (v:Int),.int .i64 ((L.length:Int)*(v:Int)),.slice bo X.length dap] rfl h0.1 underlying57 vT
    try simp only[Act.put,ah,aj,ai]
    refine aw.take 1 (v:=.agg [.int .i64 Hn,.slice (some ⟨g5,0,none⟩) Y.length Y.length].toArray) rfl (by kernel_rfl) (by kernel_rfl) (by kernel_rfl) (by kernel_rfl) (fun _ _ _ h=>h) hS ?hy6 (by rfl) ?rest6
    case hy6=>
     intro w0 h0;exact k6 g13 [.int .i64 Hn,.slice (some ⟨g5,0,none⟩) Y.length Y.length] rfl h0.2 underlying53 jr
    try simp only[Act.put,ah,aj,ai]
    refine aw.takeW 2 (v:=?vv7) rfl (by kernel_rfl) (by kernel_rfl) (by kernel_rfl) (fun _ _ _ h=>h) ?hy7 (by rfl) ?rest7
    case hy7=>
     intro w0;go_simp;try with_reducible rfl
    try simp only[Act.put,ah,aj,ai]
    refine aO 3 ?_;intro K hK;have x2:=b7.cell 2 rfl;have x3:=b7.cell 3 rfl;have x4:=b7.cell 4 rfl;have x5:=b7.cell 5 rfl;have y2:=b7.frozen 2;have y3:=b7.frozen 3;have y4:=b7.frozen 4;have y5:=b7.frozen 5
    go_simp
    refine hK.out _ _ (fun _=>⟨((((hS.1.other (by show g11≠g7;omega) _).other (by show g11≠g7;omega) _).other (by show g11≠g7;omega) _).other (by show g11≠g7;omega) _),((((hS.2.other (by show g13≠g7;omega) _).other (by show g13≠g7;omega) _).other (by show g13≠g7;omega) _).other (by show g13≠g7;omega) _)⟩) ?_
    clear hK K x2 x3 x4 x5 y2 y3 y4 y5;try simp only[Act.put,ah,aj,ai]
    have O3:aB g7 wd ((((wd.setCell ⟨g7,2,none⟩ (.int .i64 L.length)).setCell ⟨g7,3,none⟩ (.int .i64 (v:Int))).setCell ⟨g7,4,none⟩ (.int .i64 ((L.length:Int)*(v:Int)))).setCell ⟨g7,5,none⟩ (.slice bo X.length dap)):=((((aB.refl g7 wd).set 2 _).set 3 _).set 4 _).set 5 _
    have q7:=(((b7.set 2 (.int .i64 L.length)).set 3 (.int .i64 (v:Int))).set 4 (.int .i64 ((L.length:Int)*(v:Int)))).set 5 (.slice bo X.length dap)
    generalize ((((wd.setCell ⟨g7,2,none⟩ (.int .i64 L.length)).setCell ⟨g7,3,none⟩ (.int .i64 (v:Int))).setCell ⟨g7,4,none⟩ (.int .i64 ((L.length:Int)*(v:Int)))).setCell ⟨g7,5,none⟩ (.slice bo X.length dap))=we at *
    refine aw.takeW 4 (v:=?vv8) rfl (by kernel_rfl) (by kernel_rfl) (by kernel_rfl) (fun _ _ _ h=>h) ?hy8 (by rfl) ?rest8
    case hy8=>
     intro w0;go_simp;try with_reducible rfl
    try simp only[Act.put,ah,aj,ai]
    refine aO 5 ?_;intro K hK;have x6:=q7.cell 6 rfl;have x7:=q7.cell 7 rfl;have y6:=q7.frozen 6;have y7:=q7.frozen 7;go_simp;refine hK.out _ _ (fun h=>absurd (by decide) h) ?_;clear hK K x6 x7 y6 y7
    try simp only[Act.put,ah,aj,ai]
    refine aw.done (by kernel_rfl) ?_ _;have O5:aB g7 wd ((we.setCell ⟨g7,6,none⟩ (.int .i64 Hn)).setCell ⟨g7,7,none⟩ (.slice (some ⟨g5,0,none⟩) Y.length Y.length)):=O3.trans (((aB.refl g7 we).set 6 _).set 7 _)
    have r7:=(q7.set 6 (.int .i64 Hn)).set 7 (.slice (some ⟨g5,0,none⟩) Y.length Y.length)
    generalize ((we.setCell ⟨g7,6,none⟩ (.int .i64 Hn)).setCell ⟨g7,7,none⟩ (.slice (some ⟨g5,0,none⟩) Y.length Y.length))=wf at *;replace b4:=O5.cel b4 (by omega)
    replace h5X:=O5.wd h5X (fun a _ ha=>by have:=h5n a ha;omega);replace hYd:=O5.wd hYd (fun a _ ha=>by cases ha;show g5≠g7;omega);replace hwr:=hwr.trans (O5.below (by omega));clear O3 O5 q7 b7 hS
    have r7b:aa wf g7 [.int .i64 n,.int .i64 l.length,.int .i64 L.length,.int .i64 (v:Int),.int .i64 ((L.length:Int)*(v:Int)),.slice bo X.length dap,.int .i64 Hn,.slice (some ⟨g5,0,none⟩) Y.length Y.length] 61:=r7
    go_wp2_with (first | refine fE g7 _ rfl r7b underlying61 gq ?_ | refine aJ w.heap.size _ _ rfl rfl b4 rfl gq (by simp[Value.oneCell']) ?_);intro wg r4 O4
    have HZ:=Hid.mk9 (And.intro r4 (And.intro (O4.wd h5X (fun a _ ha=>by have:=h5n a ha;omega)) (And.intro (O4.wd hYd (fun a _ ha=>by cases ha;show g5≠w.heap.size;omega)) (hwr.trans (O4.below (Nat.le_refl _))))))
    clear r4 O4 b4 h5X hYd hwr r7 r7b;go_wp2
    (try simp only[Exit.inBlock,Exit.then]);refine bodyPost_ret (bj rfl w.heap.size _ rfl HZ.out.1 underlying61 gq) rfl ⟨bo,dap,some ⟨g5,0,none⟩,Y.length,?_,?_,HZ.out.2.2.2⟩
    .rw[EA.out.1,EA.out.2.1,EA.out.2.2.1,EA.out.2.2.2.1,EA.out.2.2.2.2.1,EA.out.2.2.2.2.2.1,EA.out.2.2.2.2.2.2.1,EA.out.2.2.2.2.2.2.2];rfl
    .rw[EA.out.2.2.2.2.2.1,EA.out.2.2.2.2.2.2.2];exact⟨HZ.out.2.1,h5l,HZ.out.2.2.1,Nat.le_refl _⟩
open Go.RowKit Go.Shelf Num Bit
attribute [local go_sem] Oper.semAt_some
theorem GE(n:Nat)(ao:Option Addr)(xs:List Nat)(cap:Nat)(w:World)(hx:Wd w ao xs)(fx:aA xs)(ck:az (n:Int) xs=true)(hn:n<=3000)(L:List Nat)(hL:L=plc (bitAt xs) n)(m v HN k:Nat)(hm:m=L.length)(hv:v=wdF n m)(hH:HN=hiN L n v)(hk0:k=(HN+63)/64):
  Calls prog 94 #[.agg #[.int .i64 (n:Nat),.slice ao xs.length cap],.int .i64 (m:Nat)] w fun e w'=>∃g,e=.returned (.tuple #[.agg #[.int .i64 (HN:Nat),.slice (some ⟨g,0,none⟩) k k],.int .i64 0])/\Own w' g (rowOf HN (isIn (hiP L v)))/\w.heap.size<=g/\Below w.heap.size w w':=by
 have RS:br L n:=by rw[hL];exact iK _ _
 have mn:m<=n:=by rw[hm];exact RS.len
 have v20:v<=20:=by rw[hv];exact gD n m (by omega)
 have hE:n/2^v<=n:=Nat.div_le_self _ _;have HN1:HN<=6001:=by rw[hH];unfold hiN;omega
 have HR:Hid (br (hiP L v) HN):=by show br _ _;rw[hH];exact wm v RS
 have OC:Hid (∀w0,Calls prog 147 #[.agg #[.int .i64 (n:Nat),.slice ao xs.length cap]] w0 fun e w'=>e=.returned (.func (.func 182) #[] #[.pointer (some ⟨w0.heap.size,0,none⟩)])/\w'=w0.alloc (.cells #[.int .i64 (n:Nat),.slice ao xs.length cap] 53)):=fun w0=>qt n ao xs cap w0
 have WC:Hid (∀w0,Qx 150 #[.int .i64 (n:Nat),.int .i64 (m:Nat)] w0 (.int .i64 (v:Nat))):=fun w0=>by rw[hv];exact oX n m (by omega) mn w0
 have SZ:Hid (∀w0,Qx 149 #[.int .i64 (n:Nat),.int .i64 (m:Nat)] w0 (.int .i64 (HN:Nat))):=fun w0=>by
  have:=wJ n m (by omega) mn w0;rw[<-hv,show m+n/2^v+1=HN by rw[hH,hm];rfl]at this;exact this
 have NC:Hid (∀w0,Calls prog 95 #[.int .i64 (HN:Nat)] w0 fun e w'=>∃g,e=.returned (.tuple #[.agg #[.int .i64 (HN:Nat),.slice (some ⟨g,0,none⟩) k k],.int .i64 0])/\w0.heap.size<=g/\g<w'.heap.size/\Own w' g (rowOf HN (fun _=>false))/\Below w0.heap.size w0 w'):=fun w0=>by
  have:=mL (HN:Int) k w0 (by omega) (by omega) (by rw[hk0];omega);rw[ld HN k hk0]at this;exact this
 have SC:Hid (∀w0 g f p,Own w0 g (rowOf HN f)->p<HN->Calls prog 135 #[.slice (some ⟨g,0,none⟩) k k,.int .i64 (p:Nat)] w0 fun e w'=>(∃v,e=.returned v)/\Own w' g (rowOf HN (fun j=>f j||p==j))/\bh g w0 w'):=fun w0 g f p hO hp=>by
  have:=wF HN f g k p w0 hO hp (by omega);rw[cM,<-hk0]at this;exact this
 have GO:Hid (∀(w0:World) (B:Nat) (K:Nat->Prop),Wd w0 ao xs->aa w0 B [.int .i64 (n:Nat),.slice ao xs.length cap] 53->K B->(∀p,ao=some p->0<xs.length->K p.block)->kf prog 182 #[.pointer (some ⟨B,0,none⟩)] m (fun q=>#[.int .i64 q,.int .i64 (gt L q:Nat)]) K w0):=fun w0 B K h1 h2 h3 h4=>by
  have:=qu B n ao xs cap K w0 h1 fx h2 h3 h4 ck;rw[<-hL,<-hm]at this;exact this
 have HM:=aZ hm;clear hL hm hv hH hk0 hE;refine(callsIn_wide (n:=0)).1 (callsIn_of_wp_marks func94 rfl trivial ?_)
 simp only[ntmps94,List.size_toArray,List.length_cons,List.length_nil,Nat.reduceAdd,Nat.reduceSub,Array.replicate_succ,Array.replicate_zero,List.push_toArray,List.append_toArray,List.nil_append,List.cons_append]
 refine wpIn_wide.2 ?_;obtain⟨W1,hW1⟩:∃W1,W1=(w.alloc (.cells #[.int .i64 (n:Nat),.slice ao xs.length cap] 53)).alloc (.cells #[.int .i64 0,.slice none 0 0] 53):=⟨_,rfl⟩
 have b1:Below w.heap.size w W1:=by rw[hW1];exact((below_alloc w _).alloc (by simp only[World.size_alloc];omega) _)
 have z1:W1.heap.size=w.heap.size+2:=by rw[hW1];simp
 have c0:aa W1 w.heap.size [.int .i64 (n:Nat),.slice ao xs.length cap] 53:=by rw[hW1];exact(aa.new w _ _).alloc _
 have c1:aa W1 (w.heap.size+1) [.int .i64 0,.slice none 0 0] 53:=by rw[hW1];exact aa.new2 w _ _ _
 go_wp2_with fail;rw[<-hW1];clear hW1;refine mr (SZ.out _) fun ws hs=>?_;rw[hs];clear hs ws SZ;go_wp2_with fail;refine(NC.out _).mono ?_;rintro e w2 ⟨g,rfl,hg1,hg2,hO,hb⟩
 have zf:w.heap.size+2<=g:=by omega
 replace b1:=bg b1 hb;replace c0:=c0.kept hb;replace c1:=c1.kept hb;clear hb NC z1 hg1;obtain⟨g2,hgg⟩:∃g,g=w2.heap.size:=⟨_,rfl⟩
 obtain⟨W2,hW2⟩:∃W2,W2=w2.alloc (.cells #[.int .i64 (HN:Nat),.slice (some ⟨g,0,none⟩) k k] 53):=⟨_,rfl⟩;have bA:Below w2.heap.size w2 W2:=by rw[hW2];exact below_alloc w2 _
 have z2:W2.heap.size=g2+1:=by rw[hW2,hgg];simp
 have c2:aa W2 g2 [.int .i64 (HN:Nat),.slice (some ⟨g,0,none⟩) k k] 53:=by rw[hW2,hgg];exact aa.new w2 _ _
 have d0:aa (w2.alloc (.cells #[.int .i64 (HN:Nat),.slice (some ⟨g,0,none⟩) k k] 53)) w.heap.size [.int .i64 (n:Nat),.slice ao xs.length cap] 53:=c0.alloc _;have q0:=d0.cell 0 rfl;have HG:=aZ hgg
 rw[<-hgg]at hg2;clear hgg;have HW2:=aZ hW2;clear hW2;have HZF:=aZ zf;clear zf;go_wp2_with fail;rw[<-HW2.out,<-HG.out];refine mr (WC.out _) fun ws hs=>?_;rw[hs];clear hs ws WC q0 d0
 obtain⟨W3,hW3⟩:∃W3,W3=W2.alloc (.cells #[.int .i64 (v:Nat)] 3):=⟨_,rfl⟩;have bB:Below W2.heap.size W2 W3:=by rw[hW3];exact below_alloc W2 _
 have z3:W3.heap.size=g2+2:=by rw[hW3];simp[z2]
 have c3:aa W3 (g2+1) [.int .i64 (v:Nat)] 3:=by rw[hW3,<-z2];exact aa.new W2 _ _
 have d0:aa (W2.alloc (.cells #[.int .i64 (v:Nat)] 3)) w.heap.size [.int .i64 (n:Nat),.slice ao xs.length cap] 53:=(c0.kept bA).alloc _;have q0:=d0.cell 0 rfl;have q1:=d0.cell 1 rfl;have HW3:=aZ hW3;clear hW3
 go_wp2_with fail;rw[<-HW3.out];refine(OC.out _).mono ?_;rintro e w' ⟨rfl,hw'⟩;have bC:Below W3.heap.size W3 w':=by rw[hw'];exact below_alloc W3 _
 have z4:w'.heap.size=g2+3:=by rw[hw'];simp[z3]
 have c4:aa w' (g2+2) [.int .i64 (n:Nat),.slice ao xs.length cap] 53:=by rw[hw',<-z3];exact aa.new W3 _ _
 rw[z3];have zf:=HZF.out;have zg:w.heap.size<=g2:=by omega
 have bD:Below w2.heap.size w2 w':=bA.trans ((bB.mono (by rw[<-HG.out];omega)).trans (bC.mono (by rw[<-HG.out];omega)));have b4:Below w.heap.size w w':=b1.trans (bD.mono (by rw[<-HG.out];omega))
 replace c0:=c0.kept bD;replace c1:=c1.kept bD;replace c2:=(c2.kept bB).kept bC;replace c3:=c3.kept bC;replace hO:=hO.keep bD;clear b1 bA bB bC bD OC HW2 HW3 HG hw' d0 q0 q1 HZF z2 z3 W1 W2 W3 w2;go_wp2
 have G:=GO.out w' (g2+2) (fun b=>b≠g/\b≠w'.heap.size+1) (hx.keep b4) c4 (by omega) (fun p hp h0=>by have:=hx.blk hp h0;omega)
 have I0:Own w' g (rowOf HN (isIn (hiP (L.take 0) v))):=by
  rw[da HN (isIn (hiP (L.take 0) v)) (fun _=>false) fun i _=>by simp[isIn,hiP]];exact hO
 clear hO GO
 refine jg (gf:=182) (lb:=#[.pointer (some ⟨g2+2,0,none⟩)]) (K:=fun b=>b≠g) rfl (enters_of func182 (by kernel_rfl) rfl) (fun _=>rfl) G (fun b hb=>by omega)
  (fun q Wc=>aE (fun b=>b≠g) w' Wc/\Own Wc g (rowOf HN (isIn (hiP (L.take q) v)))) (fun q Wc=>False) (fun q A B h hb=>⟨h.1.more hb (Nat.le_refl _),(hb.block g (by omega)).trans h.2⟩) (fun q A B h hb=>h) ⟨aE.refl _ _,I0⟩
  (fun q=>{ tmps:=#[.agg #[.int .i64 (n:Nat),.slice ao xs.length cap],.int .i64 (m:Nat),.pointer (some ⟨w.heap.size,0,none⟩),undef,.pointer (some ⟨w.heap.size+1,0,none⟩),.int .i64 0,.pointer (some ⟨g2,0,none⟩),.int .i64 0,.pointer (some ⟨g2+1,0,none⟩),.int .i64 (q:Nat),.int .i64 (gt L q:Nat),.tuple #[.agg #[.int .i64 (HN:Nat),.slice (some ⟨g,0,none⟩) k k],.int .i64 0],.pointer (some ⟨w.heap.size,0,none⟩),.int .i64 (n:Nat),.int .i64 (m:Nat),.int .i64 (HN:Nat),.tuple #[.agg #[.int .i64 (HN:Nat),.slice (some ⟨g,0,none⟩) k k],.int .i64 0],.agg #[.int .i64 (HN:Nat),.slice (some ⟨g,0,none⟩) k k],.int .i64 0,.int .i64 0,.bool false,undef,undef,.pointer (some ⟨w.heap.size,0,none⟩),.int .i64 (n:Nat),.int .i64 (m:Nat),.int .i64 (v:Nat),.agg #[.int .i64 (n:Nat),.slice ao xs.length cap],.func (.func 182) #[] #[.pointer (some ⟨g2+2,0,none⟩)],.int .i64 (q:Nat),.int .i64 (gt L q:Nat),undef,undef,undef,undef,undef,undef,undef,undef,undef],defers:=[] }) ?assign ?body ?done ?stop
 case assign=>
  intro l1 q Wc K1 hK1;gi_wp2;exact hK1
 case body=>
  rintro l1 q Wc hq ⟨hk,hO⟩ hz;have cB:=hk.cel c2 (by omega);have cV:=hk.cel c3 (by omega);have qL:q<L.length:=by rw[<-HM.out];exact hq
  have hlt:=RS.1 q qL
  have hpl:gt L q/2^v+q<HN:=by
   have:=HR.out.1 q (by rw[lN];exact qL);rw[lX L v q qL]at this;exact this
  have S1:=aZ (fun w0 h=>SC.out w0 g (isIn (hiP (L.take q) v)) (gt L q/2^v+q) h hpl)
  have RW:Hid (rowOf HN (fun j=>isIn (hiP (L.take q) v) j||gt L q/2^v+q==j)=rowOf HN (isIn (hiP (L.take (q+1)) v))):=by
   show rowOf _ _=_;refine da _ _ _ fun j _=>?_;rw[wt L v q qL,oR]
  generalize gt L q=x at *;obtain⟨d,hd⟩:∃d,Hid (d=x/2^v):=⟨_,rfl⟩;have sd:(x:Int)/2^v=(d:Int):=by rw[hd.out,Int.natCast_ediv,Int.natCast_pow];rfl
  have S2:Hid (∀w0,Own w0 g (rowOf HN (isIn (hiP (L.take q) v)))->Calls prog 135 #[.slice (some ⟨g,0,none⟩) k k,.int .i64 (IntKind.i64.wrap ((d:Int)+(q:Int)))] w0 fun e w'=>(∃v,e=.returned v)/\Own w' g (rowOf HN (isIn (hiP (L.take (q+1)) v)))/\bh g w0 w'):=fun w0 h=>by
   have:=S1.out w0 h;rw[RW.out,<-hd.out]at this;rw[<-hd.out]at hpl;rw[show IntKind.i64.wrap ((d:Int)+(q:Int))=((d+q:Nat):Int)by rw[IntKind.wrap_i64];omega];exact this
  have v64:(v:Int)<64:=by omega
  clear G S1 RW SC;gi_wp2_with fail;refine p_ [] (fun w0=>aa w0 g2 [.int .i64 (HN:Nat),.slice (some ⟨g,0,none⟩) k k] 53/\aa w0 (g2+1) [.int .i64 (v:Nat)] 3) (by kernel_rfl) ?_
  have hS:(fun w0:World=>aa w0 g2 [.int .i64 (HN:Nat),.slice (some ⟨g,0,none⟩) k k] 53/\aa w0 (g2+1) [.int .i64 (v:Nat)] 3) Wc.drew:=⟨cB,cV⟩
  refine bi.take 0 (v:=?vv1) (cK _) rfl (by kernel_rfl) (by kernel_rfl) (by kernel_rfl) (by kernel_rfl) (by kernel_rfl) (fun _ _ _ h=>h) hS ?hy1 (by rfl) ?rest1
  case hy1=>
   intro w0 h0;go_simp;try with_reducible rfl
  simp only[Act.put,ar,an,am,ah,aj,ai];refine bi.take 1 (v:=?vv2) (cK _) rfl (by kernel_rfl) (by kernel_rfl) (by kernel_rfl) (by kernel_rfl) (by kernel_rfl) (fun _ _ _ h=>h) hS ?hy2 (by rfl) ?rest2
  case hy2=>
   intro w0 h0;have:=h0.1.cell 1 rfl;go_simp;try with_reducible rfl
  simp only[Act.put,ar,an,am,ah,aj,ai];refine bi.take 2 (v:=?vv3) (cK _) rfl (by kernel_rfl) (by kernel_rfl) (by kernel_rfl) (by kernel_rfl) (by kernel_rfl) (fun _ _ _ h=>h) hS ?hy3 (by rfl) ?rest3
  case hy3=>
   intro w0 h0;go_simp;try with_reducible rfl
  simp only[Act.put,ar,an,am,ah,aj,ai];refine bi.take 3 (v:=?vv4) (cK _) rfl (by kernel_rfl) (by kernel_rfl) (by kernel_rfl) (by kernel_rfl) (by kernel_rfl) (fun _ _ _ h=>h) hS ?hy4 (by rfl) ?rest4
  case hy4=>
   intro w0 h0;have:=h0.2.cell 0 rfl;go_simp;try with_reducible rfl
  simp only[Act.put,ar,an,am,ah,aj,ai];refine bi.take 4 (v:=?vv5) (cK _) rfl (by kernel_rfl) (by kernel_rfl) (by kernel_rfl) (by kernel_rfl) (by kernel_rfl) (fun _ _ _ h=>h) hS ?hy5 (by rfl) ?rest5
  case hy5=>
   intro w0 h0;go_simp;try with_reducible rfl
  simp only[Act.put,ar,an,am,ah,aj,ai];refine bi.take 5 (v:=?vv6) (cK _) rfl (by kernel_rfl) (by kernel_rfl) (by kernel_rfl) (by kernel_rfl) (by kernel_rfl) (fun _ _ _ h=>h) hS ?hy6 (by rfl) ?rest6
  case hy6=>
   intro w0 h0;go_simp;try with_reducible rfl
  simp only[Act.put,ar,an,am,ah,aj,ai];refine bi.take 6 (v:=?vv7) (cK _) rfl (by kernel_rfl) (by kernel_rfl) (by kernel_rfl) (by kernel_rfl) (by kernel_rfl) (fun _ _ _ h=>h) hS ?hy7 (by rfl) ?rest7
  case hy7=>
   intro w0 h0;go_simp;try with_reducible rfl
  simp only[Act.put,ar,an,am,ah,aj,ai];refine bi.one 7 (cK _) (by kernel_rfl) rfl (fun _ h=>by cases h) (by rfl) ?_;intro K2 hK2;go_simp;refine⟨rfl,?_⟩
  refine(CallsIn.inRound l1 (callsIn_wide.2 (S2.out Wc.drew hO.drew'))).mono ?_;rintro e W3 ⟨⟨u,rfl⟩,hO3,hT⟩
  have kT:aE (fun b=>b≠g) Wc W3:=⟨hT.os,hT.tape,hT.output,Nat.le_of_eq hT.size.symm,fun b hb _=>hT.block b hb⟩;have HE:=aZ (And.intro kT (And.intro (hk.trans kT) hO3))
  have hS3:aa W3 g2 [.int .i64 (HN:Nat),.slice (some ⟨g,0,none⟩) k k] 53/\aa W3 (g2+1) [.int .i64 (v:Nat)] 3:=⟨kT.cel cB (by omega),kT.cel cV (by omega)⟩;clear kT hT hO3;refine hK2.out _ _ (fun _=>hS3) ?_
  clear hK2 K2;refine bi.done (by kernel_rfl) ?_ _;gi_wp2;exact HE.out
 case done=>
  rintro D Wc hD ⟨hk,hO⟩ hd;rw[HM.out,List.take_of_length_le (Nat.le_refl _)]at hO;have cR:=hk.cel c1 (by omega);have cB:=hk.cel c2 (by omega)
  have hb:=b4.trans (hk.below (B:=w.heap.size) (fun x h=>by omega) (by omega));have DN:D≠g/\D≠w.heap.size+1/\w.heap.size<=D:=⟨by omega,by omega,by omega⟩
  have gN:g≠w.heap.size+1/\w.heap.size<=g:=⟨by omega,by omega⟩;clear hk c0 c1 c2 c3 c4 G
  go_wp2_with (first | refine fE g2 _ rfl cB underlying53 jt ?_ | refine aJ (w.heap.size+1) [.int .i64 0,.slice none 0 0] _ rfl rfl cR rfl jt (by simp[Value.oneCell']) ?_);intro w3 B3 O3
  have b5:=hb.trans (O3.below (Nat.le_succ _));have hO3:Own w3 g (rowOf HN (isIn (hiP L v))):=(O3.block g gN.1).trans hO;have hd3:w3.heap[D]?=some (.deferred (some [])):=(O3.block D DN.2.1).trans hd
  have HZ:=aZ (And.intro B3 (And.intro hO3 (And.intro hd3 b5)));clear B3 O3 hO3 hd3 b5 hd hO cB cR;go_wp2;obtain⟨B3,hO3,hd3,b5⟩:=HZ.out
  have cR2:=B3.put (.deferred none) (show w.heap.size+1≠D from fun e=>DN.2.1 e.symm)
  have hO4:Own (w3.putObj D (.deferred none)) g (rowOf HN (isIn (hiP L v))):=(World.putObj_heap_other (fun e=>DN.1 e.symm)).trans hO3
  exact gQ hd3 (bj rfl (w.heap.size+1) _ rfl cR2 underlying53 jt) ⟨g,rfl,hO4,gN.2,b5.trans (eV DN.2.2 _)⟩
 case stop=>
  rintro D q Wc hD hq h hd;exact h.elim
attribute [local go_sem] Oper.semAt_some
theorem Gt(m:Nat)(f:Nat->Nat)(i:Nat)(h:i<m):gt ((List.range m).map f) i=f i:=by
 unfold gt;rw[List.getD_eq_getElem?_getD,List.getElem?_map,List.getElem?_range h];rfl
def iu(L:List Nat)(v q:Nat):List Nat:=(List.range L.length).map fun j=>if j<q then gt L j%2^v else 0
theorem oI(L:List Nat)(v q:Nat):(iu L v q).length=L.length:=by simp[iu]
theorem DW(L:List Nat)(v:Nat):iu L v 0=List.replicate L.length 0:=by
 unfold iu;rw[List.eq_replicate_iff];refine⟨by simp,fun b hb=>?_⟩;rw[List.mem_map]at hb;obtain⟨j,_,rfl⟩:=hb;simp
theorem DY(L:List Nat)(v:Nat)(hv:0<v):iu L v L.length=loP L v:=by
 refine Bit.list_ext _ _ (by rw[oI,jm L v hv]) fun i hi=>?_;rw[oI]at hi;rw[oZ L v i hv hi];unfold iu;rw[Gt _ _ _ hi,if_pos hi]
theorem DX(L:List Nat)(v q:Nat)(h:q<L.length):(iu L v q).set q (gt L q%2^v)=iu L v (q+1):=by
 refine List.ext_getElem? fun i=>?_;rw[List.getElem?_set,oI];unfold iu;by_cases c:i<L.length
 .rw[List.getElem?_map,List.getElem?_map,List.getElem?_range c];by_cases d:q=i
  .subst d;simp[c]
  .rw[if_neg d];simp only[Option.map_some];congr 1;by_cases e:i<q
   .rw[if_pos e,if_pos (by omega)]
   .rw[if_neg e,if_neg (by omega)]
 .rw[if_neg (by omega),List.getElem?_eq_none (by simp;omega),List.getElem?_eq_none (by simp;omega)]
theorem Ff(n:Nat)(L:List Nat)(v:Nat)(hn:n<=3000)(hl:L.length<=n)(hv:v<=20):cd ((max v 1:Nat):Int) (loP L v)=0:=by
 unfold cd;rw[if_neg];have h1:=mR L v;have h2:(loP L v).length*max v 1<=3000*20:=Nat.mul_le_mul (by omega) (by omega);rintro(h | h | h | h)
 .omega
 .omega
 .rw[<-Int.natCast_mul]at h;omega
 .exact h fun j hj=>(qY _ _).2 (oG L v j)
theorem m_:(prog.info? 57).map (·.size)=some 4:=by kernel_rfl
theorem GB(n:Nat)(ao:Option Addr)(xs:List Nat)(cap:Nat)(w:World)(m:Nat)(hn:n<=3000)(mn:m<=n)(h0:wdF n m=0):
  Calls prog 93 #[.agg #[.int .i64 (n:Nat),.slice ao xs.length cap],.int .i64 (m:Nat)] w fun e w'=>∃bo bc,e=.returned (.tuple #[.agg #[.int .i64 0,.int .i64 1,.int .i64 0,.slice bo 0 bc],.int .i64 0])/\Below w.heap.size w w':=by
 obtain⟨i6,hi6,za6,zb6,zc6⟩:=info_parts Tryz.info126
 have SZ:Hid (∀w0,Qx 146 #[.int .i64 (n:Nat),.int .i64 (m:Nat)] w0 (.tuple #[.int .i64 0,.int .i64 1])):=fun w0=>by
  have:=rp n m (by omega) mn w0;unfold loN at this;rw[h0,if_pos rfl]at this;exact this
 have MC:Hid (∀w0 g,Calls prog 144 #[.int .i64 1,.slice (some ⟨g,0,none⟩) 0 0] w0 fun e w'=>∃bo bc,e=.returned (.tuple #[.agg #[.int .i64 0,.int .i64 1,.int .i64 0,.slice bo 0 bc],.int .i64 0])/\Below w0.heap.size w0 w'):=fun w0 g=>by
  refine(qF 1 (some ⟨g,0,none⟩) [] 0 0 w0 (cE _ _) (fun i=>by unfold gt;simp) (by decide) (by decide)).mono ?_;rintro e w' ⟨g',rfl,_,_,hb⟩;exact⟨_,_,rfl,hb⟩
 clear h0;refine(callsIn_wide (n:=0)).1 (callsIn_of_wp_marks func93 rfl trivial ?_)
 simp only[ntmps93,List.size_toArray,List.length_cons,List.length_nil,Nat.reduceAdd,Nat.reduceSub,Array.replicate_succ,Array.replicate_zero,List.push_toArray,List.append_toArray,List.nil_append,List.cons_append]
 refine wpIn_wide.2 ?_;obtain⟨W1,hW1⟩:∃W1,W1=(w.alloc (.cells #[.int .i64 (n:Nat),.slice ao xs.length cap] 53)).alloc (.cells #[.int .i64 0,.int .i64 0,.int .i64 0,.slice none 0 0] 57):=⟨_,rfl⟩
 have b1:Below w.heap.size w W1:=by rw[hW1];exact((below_alloc w _).alloc (by simp only[World.size_alloc];omega) _)
 have z1:W1.heap.size=w.heap.size+2:=by rw[hW1];simp
 have c1:aa W1 (w.heap.size+1) [.int .i64 0,.int .i64 0,.int .i64 0,.slice none 0 0] 57:=by rw[hW1];exact aa.new2 w _ _ _
 go_wp2_with fail;rw[<-hW1];clear hW1;refine mr (SZ.out _) fun ws hs=>?_;rw[hs];clear hs ws SZ;obtain⟨W2,hW2⟩:∃W2,W2=W1.alloc (.cells #[.int .i64 1] 3):=⟨_,rfl⟩
 have b2:Below W1.heap.size W1 W2:=by rw[hW2];exact below_alloc W1 _
 have z2:W2.heap.size=w.heap.size+3:=by rw[hW2];simp[z1]
 have c2:aa W2 (w.heap.size+2) [.int .i64 1] 3:=by rw[hW2,<-z1];exact aa.new W1 _ _
 go_wp2_with (at_make;rw[<-hW2];refine wpList_make_full _ rfl _ _ 51 rfl W2.heap.size 126 i6 (.int .u64 0) 1 underlying51 hi6 za6 zb6 .i64 .i64 _ _ 0 rfl rfl rfl rfl ?b2 ?b3 ?b4 ?_)
 case b2=>rw[zc6];omega
 case b3=>unfold maxLen;omega
 case b4=>exact Nat.le_refl _
 intro w3 hown hgr;have b3:Below W2.heap.size W2 w3:=by rw[hW2];exact(Below.refl _ _).grown hgr (Nat.le_refl _) (fun k h=>by cases h)
 have bb:Below w.heap.size w w3:=b1.trans ((b2.mono (by omega)).trans (b3.mono (by omega)));replace c1:=(c1.kept b2).kept b3;replace c2:=c2.kept b3;clear hown hgr b1 b2 b3 hW2
 have bA:=below_alloc w3 (.cells #[.slice (some ⟨w.heap.size+2+1,0,none⟩) 0 0] 51);have d2:=c2.kept bA;have d1:=c1.kept bA;have q0:=d2.cell 0 rfl;go_wp2_with fail;refine(MC.out _ _).mono ?_
 rintro e w4 ⟨bo,bc,rfl,hb⟩;have b5:=(bg bb bA).trans (hb.mono (Nat.le_trans bb.size bA.size));replace d1:=d1.kept hb;clear hb q0 d2 c1 c2 bA bb
 go_wp2_with (refine aJ (w.heap.size+1) [.int .i64 0,.int .i64 0,.int .i64 0,.slice none 0 0] _ rfl rfl d1 rfl m_ (by simp[Value.oneCell']) ?_);intro w5 B3 O3
 have HZ:=aZ (And.intro B3 (b5.trans (O3.below (Nat.le_succ _))));clear B3 O3 b5 d1;go_wp2;exact⟨_,bj rfl (w.heap.size+1) _ rfl HZ.out.1 underlying57 m_,bo,bc,rfl,HZ.out.2⟩
theorem Gz(n:Nat)(ao:Option Addr)(xs:List Nat)(cap:Nat)(w:World)(hx:Wd w ao xs)(fx:aA xs)(ck:az (n:Int) xs=true)(hn:n<=3000)(L:List Nat)(hL:L=plc (bitAt xs) n)(m v:Nat)(hm:m=L.length)(hv:v=wdF n m)(hv0:0<v):
  Calls prog 93 #[.agg #[.int .i64 (n:Nat),.slice ao xs.length cap],.int .i64 (m:Nat)] w fun e w'=>∃g k,e=.returned (.tuple #[.agg #[.int .i64 (m:Nat),.int .i64 (v:Nat),.int .i64 ((m:Int)*(v:Int)),.slice (some ⟨g,0,none⟩) k k],.int .i64 0])/\k=(mkS (loP L v) v m).length/\Own w' g (mkS (loP L v) v m)/\Below w.heap.size w w':=by
 have RS:br L n:=by rw[hL];exact iK _ _
 have mn:m<=n:=by rw[hm];exact RS.len
 have v20:v<=20:=by rw[hv];exact gD n m (by omega)
 have m0:0<m:=by
  refine Nat.pos_of_ne_zero fun c=>?_;rw[c]at hv;unfold wdF at hv;rw[if_pos rfl]at hv;omega
 have m0i:(0:Int)<(m:Int):=by omega
 obtain⟨i6,hi6,za6,zb6,zc6⟩:=info_parts Tryz.info126
 have OC:Hid (∀w0,Calls prog 147 #[.agg #[.int .i64 (n:Nat),.slice ao xs.length cap]] w0 fun e w'=>e=.returned (.func (.func 182) #[] #[.pointer (some ⟨w0.heap.size,0,none⟩)])/\w'=w0.alloc (.cells #[.int .i64 (n:Nat),.slice ao xs.length cap] 53)):=fun w0=>qt n ao xs cap w0
 have SZ:Hid (∀w0,Qx 146 #[.int .i64 (n:Nat),.int .i64 (m:Nat)] w0 (.tuple #[.int .i64 (m:Nat),.int .i64 (v:Nat)])):=fun w0=>by
  have:=rp n m (by omega) mn w0;unfold loN at this;rw[<-hv,if_neg (by omega),show max v 1=v by omega]at this;exact this
 have MK:Hid (∀w0,Qx 148 #[.int .i64 (v:Nat)] w0 (.int .u64 (maskI v))):=fun w0=>mO v w0
 have MC:Hid (∀w0 g,Own w0 g (loP L v)->Calls prog 144 #[.int .i64 (v:Nat),.slice (some ⟨g,0,none⟩) m m] w0 fun e w'=>∃g k,e=.returned (.tuple #[.agg #[.int .i64 (m:Nat),.int .i64 (v:Nat),.int .i64 ((m:Int)*(v:Int)),.slice (some ⟨g,0,none⟩) k k],.int .i64 0])/\k=(mkS (loP L v) v m).length/\Own w' g (mkS (loP L v) v m)/\Below w0.heap.size w0 w'):=fun w0 g hO=>by
  have e1:=Ff n L v hn (by omega) v20;rw[show max v 1=v by omega]at e1;have e2:(loP L v).length=m:=by rw[jm L v hv0,hm]
  have:=qF v (some ⟨g,0,none⟩) (loP L v) m ((m*v+63)/64) w0 hO.wd (fun i=>Nat.lt_of_lt_of_le (oG L v i) (Nat.pow_le_pow_right (show 0<2 by decide) (show max v 1<=64 by omega))) e1 (by rw[e2])
  rw[e2]at this;refine this.mono ?_;rintro e w' ⟨g',rfl,_,h1,h2⟩;exact⟨g',_,rfl,by rw[jl,e2],h1,h2⟩
 have GO:Hid (∀(w0:World) (B:Nat) (K:Nat->Prop),Wd w0 ao xs->aa w0 B [.int .i64 (n:Nat),.slice ao xs.length cap] 53->K B->(∀p,ao=some p->0<xs.length->K p.block)->kf prog 182 #[.pointer (some ⟨B,0,none⟩)] m (fun q=>#[.int .i64 q,.int .i64 (gt L q:Nat)]) K w0):=fun w0 B K h1 h2 h3 h4=>by
  have:=qu B n ao xs cap K w0 h1 fx h2 h3 h4 ck;rw[<-hL,<-hm]at this;exact this
 have HM:=aZ hm;clear hL hm hv;refine(callsIn_wide (n:=0)).1 (callsIn_of_wp_marks func93 rfl trivial ?_)
 simp only[ntmps93,List.size_toArray,List.length_cons,List.length_nil,Nat.reduceAdd,Nat.reduceSub,Array.replicate_succ,Array.replicate_zero,List.push_toArray,List.append_toArray,List.nil_append,List.cons_append]
 refine wpIn_wide.2 ?_;obtain⟨W1,hW1⟩:∃W1,W1=(w.alloc (.cells #[.int .i64 (n:Nat),.slice ao xs.length cap] 53)).alloc (.cells #[.int .i64 0,.int .i64 0,.int .i64 0,.slice none 0 0] 57):=⟨_,rfl⟩
 have b1:Below w.heap.size w W1:=by rw[hW1];exact((below_alloc w _).alloc (by simp only[World.size_alloc];omega) _)
 have z1:W1.heap.size=w.heap.size+2:=by rw[hW1];simp
 have c0:aa W1 w.heap.size [.int .i64 (n:Nat),.slice ao xs.length cap] 53:=by rw[hW1];exact(aa.new w _ _).alloc _
 have c1:aa W1 (w.heap.size+1) [.int .i64 0,.int .i64 0,.int .i64 0,.slice none 0 0] 57:=by rw[hW1];exact aa.new2 w _ _ _
 go_wp2_with fail;rw[<-hW1];clear hW1;refine mr (SZ.out _) fun ws hs=>?_;rw[hs];clear hs ws SZ;obtain⟨W2,hW2⟩:∃W2,W2=W1.alloc (.cells #[.int .i64 (v:Nat)] 3):=⟨_,rfl⟩
 have b2:Below W1.heap.size W1 W2:=by rw[hW2];exact below_alloc W1 _
 have z2:W2.heap.size=w.heap.size+3:=by rw[hW2];simp[z1]
 have c2:aa W2 (w.heap.size+2) [.int .i64 (v:Nat)] 3:=by rw[hW2,<-z1];exact aa.new W1 _ _
 go_wp2_with (at_make;rw[<-hW2];refine wpList_make_full _ rfl _ _ 51 rfl W2.heap.size 126 i6 (.int .u64 0) 1 underlying51 hi6 za6 zb6 .i64 .i64 _ _ m rfl rfl rfl rfl ?b2 ?b3 ?b4 ?_)
 case b2=>rw[zc6];omega
 case b3=>unfold maxLen;omega
 case b4=>exact Nat.le_refl _
 intro w3 hown hgr;have b3:Below W2.heap.size W2 w3:=by rw[hW2];exact(Below.refl _ _).grown hgr (Nat.le_refl _) (fun k h=>by cases h)
 have bb:Below w.heap.size w w3:=b1.trans ((b2.mono (by omega)).trans (b3.mono (by omega)));have hO:Own w3 (w.heap.size+3) (List.replicate m 0):=own_made hown;have z3:w.heap.size+4<=w3.heap.size:=hO.lt
 replace c0:=(c0.kept b2).kept b3;replace c1:=(c1.kept b2).kept b3;replace c2:=c2.kept b3;obtain⟨g4,zh⟩:∃g,w3.heap.size=g:=⟨_,rfl⟩;rw[zh]at z3;clear hown hgr b1 b2 b3 hW2
 obtain⟨W4,hW4⟩:∃W4,W4=w3.alloc (.cells #[.slice (some ⟨w.heap.size+2+1,0,none⟩) m m] 51):=⟨_,rfl⟩;have bA:Below w3.heap.size w3 W4:=by rw[hW4];exact below_alloc w3 _
 have z4:W4.heap.size=g4+1:=by rw[hW4];simp[zh]
 have c4:aa W4 g4 [.slice (some ⟨w.heap.size+3,0,none⟩) m m] 51:=by rw[hW4,<-zh];exact aa.new w3 _ _
 have d0:aa (w3.alloc (.cells #[.slice (some ⟨w.heap.size+2+1,0,none⟩) m m] 51)) w.heap.size [.int .i64 (n:Nat),.slice ao xs.length cap] 53:=c0.alloc _;have q0:=d0.cell 0 rfl;have q1:=d0.cell 1 rfl
 have HW4:=aZ hW4;have HZH:=aZ zh;clear hW4 zh;go_wp2_with fail;rw[<-HW4.out,HZH.out];refine(OC.out _).mono ?_;rintro e w' ⟨rfl,hw'⟩;have zh:=HZH.out
 have bC:Below W4.heap.size W4 w':=by rw[hw'];exact below_alloc W4 _
 have z5:w'.heap.size=g4+2:=by rw[hw'];simp[z4]
 have c5:aa w' (g4+1) [.int .i64 (n:Nat),.slice ao xs.length cap] 53:=by rw[hw',<-z4];exact aa.new W4 _ _
 rw[z4];have bD:Below w3.heap.size w3 w':=bA.trans (bC.mono (by omega));have b4:Below w.heap.size w w':=bb.trans (bD.mono (by omega));replace c0:=c0.kept bD;replace c1:=c1.kept bD;replace c2:=c2.kept bD
 replace c4:=c4.kept bC;replace hO:=hO.keep bD;clear bA bb bC bD OC HW4 HZH hw' d0 q0 q1 z1 z2 zh z4;go_wp2
 have G:=GO.out w' (g4+1) (fun b=>b≠w.heap.size+3/\b≠w'.heap.size+1) (hx.keep b4) c5 (by omega) (fun p hp h0=>by have:=hx.blk hp h0;omega)
 have I0:Own w' (w.heap.size+3) (iu L v 0):=by
  rw[DW,<-HM.out];exact hO
 clear hO GO
 refine jg (gf:=182) (lb:=#[.pointer (some ⟨g4+1,0,none⟩)]) (K:=fun b=>b≠w.heap.size+3) rfl (enters_of func182 (by kernel_rfl) rfl) (fun _=>rfl) G (fun b hb=>by omega)
  (fun q Wc=>aE (fun b=>b≠w.heap.size+3) w' Wc/\Own Wc (w.heap.size+3) (iu L v q)) (fun q Wc=>False) (fun q A B h hb=>⟨h.1.more hb (Nat.le_refl _),(hb.block (w.heap.size+3) (by omega)).trans h.2⟩) (fun q A B h hb=>h) ⟨aE.refl _ _,I0⟩
  (fun q=>{ tmps:=#[.agg #[.int .i64 (n:Nat),.slice ao xs.length cap],.int .i64 (m:Nat),.pointer (some ⟨w.heap.size,0,none⟩),undef,.pointer (some ⟨w.heap.size+1,0,none⟩),.int .i64 0,.int .i64 (m:Nat),.pointer (some ⟨w.heap.size+2,0,none⟩),.pointer (some ⟨g4,0,none⟩),.int .i64 (q:Nat),.int .i64 (gt L q:Nat),.tuple #[.int .i64 (m:Nat),.int .i64 (v:Nat)],.pointer (some ⟨w.heap.size,0,none⟩),.int .i64 (n:Nat),.int .i64 (m:Nat),.tuple #[.int .i64 (m:Nat),.int .i64 (v:Nat)],.int .i64 (m:Nat),.int .i64 (v:Nat),.int .i64 (m:Nat),.slice (some ⟨w.heap.size+3,0,none⟩) m m,.int .i64 (m:Nat),.bool true,.agg #[.int .i64 (n:Nat),.slice ao xs.length cap],.func (.func 182) #[] #[.pointer (some ⟨g4+1,0,none⟩)],.int .i64 (q:Nat),.int .i64 (gt L q:Nat),undef,undef,undef,undef,undef,undef,undef,undef,undef,undef,undef,undef,undef],defers:=[] }) ?assign ?body ?done ?stop
 case assign=>
  intro l1 q Wc K1 hK1;gi_wp2;exact hK1
 case body=>
  rintro l1 q Wc hq ⟨hk,hO⟩ hz;have cS:=hk.cel c4 (by omega);have cV:=hk.cel c2 (by omega);have qL:q<L.length:=by rw[<-HM.out];exact hq
  have hlt:=RS.1 q qL;have NS:=aZ (DX L v q qL);have r0:=hO.cell q (by rw[oI];exact qL);have r1:=hO.frozen q;have hO2:=aZ hO;clear hO;generalize gt L q=x at *
  have hq2:(q:Int)<(m:Int):=by omega
  have xu:IntKind.u64.wrap (x:Int)=(x:Int):=by rw[IntKind.wrap_u64];omega
  have AM:bits BinOp.and IntKind.u64 (x:Int) (maskI (v:Int))=((x%2^v:Nat):Int):=by
   rw[nD _ _ (by omega) (by omega),Int.toNat_natCast,Int.toNat_natCast,show min v 64=v by omega]
  generalize x%2^v=y at *;generalize maskI (v:Int)=mk at *;clear G;gi_wp2_with fail
  refine p_ [8] (fun w0=>aa w0 g4 [.slice (some ⟨w.heap.size+3,0,none⟩) m m] 51/\aa w0 (w.heap.size+2) [.int .i64 (v:Nat)] 3) (by kernel_rfl) ?_
  have hS:(fun w0:World=>aa w0 g4 [.slice (some ⟨w.heap.size+3,0,none⟩) m m] 51/\aa w0 (w.heap.size+2) [.int .i64 (v:Nat)] 3) Wc.drew:=⟨cS,cV⟩
  refine bi.take 0 (v:=?vv1) (cK _) rfl (by kernel_rfl) (by kernel_rfl) (by kernel_rfl) (by kernel_rfl) (by kernel_rfl) (fun _ _ _ h=>h) hS ?hy1 (by rfl) ?rest1
  case hy1=>
   intro w0 h0;have:=h0.1.cell 0 rfl;go_simp;try with_reducible rfl
  simp only[Act.put,ar,an,am,ah,aj,ai];refine bi.take 1 (v:=?vv2) (cK _) rfl (by kernel_rfl) (by kernel_rfl) (by kernel_rfl) (by kernel_rfl) (by kernel_rfl) (fun _ _ _ h=>h) hS ?hy2 (by rfl) ?rest2
  case hy2=>
   intro w0 h0;go_simp;try with_reducible rfl
  simp only[Act.put,ar,an,am,ah,aj,ai];refine bi.take 2 (v:=?vv3) (cK _) rfl (by kernel_rfl) (by kernel_rfl) (by kernel_rfl) (by kernel_rfl) (by kernel_rfl) (fun _ _ _ h=>h) hS ?hy3 (by rfl) ?rest3
  case hy3=>
   intro w0 h0;go_simp;try with_reducible rfl
  simp only[Act.put,ar,an,am,ah,aj,ai];refine bi.take 3 (v:=?vv4) (cK _) rfl (by kernel_rfl) (by kernel_rfl) (by kernel_rfl) (by kernel_rfl) (by kernel_rfl) (fun _ _ _ h=>h) hS ?hy4 (by rfl) ?rest4
  case hy4=>
   intro w0 h0;go_simp;try with_reducible rfl
  simp only[Act.put,ar,an,am,ah,aj,ai];refine bi.take 4 (v:=?vv5) (cK _) rfl (by kernel_rfl) (by kernel_rfl) (by kernel_rfl) (by kernel_rfl) (by kernel_rfl) (fun _ _ _ h=>h) hS ?hy5 (by rfl) ?rest5
  case hy5=>
   intro w0 h0;have:=h0.2.cell 0 rfl;go_simp;try with_reducible rfl
  simp only[Act.put,ar,an,am,ah,aj,ai];refine bi.one 5 (cK _) (by kernel_rfl) rfl (fun _ h=>by cases h) (by rfl) ?_;intro K2 hK2;go_simp;refine⟨rfl,?_⟩
  refine(CallsIn.inRound l1 (callsIn_wide.2 (MK.out _))).mono ?_;rintro e W3 ⟨rfl,h3⟩;rw[h3];clear h3 W3;refine hK2.out _ _ (fun _=>hS) ?_;clear hK2 K2;try simp only[Act.put,ar,an,am,ah,aj,ai]
  refine bi.take 6 (v:=?vv51) (cK _) rfl (by kernel_rfl) (by kernel_rfl) (by kernel_rfl) (by kernel_rfl) (by kernel_rfl) (fun _ _ _ h=>h) hS ?hy51 (by rfl) ?rest51
  case hy51=>
   intro w0 h0;go_simp;try with_reducible rfl
  simp only[Act.put,ar,an,am,ah,aj,ai];refine bi.take 7 (v:=?vv52) (cK _) rfl (by kernel_rfl) (by kernel_rfl) (by kernel_rfl) (by kernel_rfl) (by kernel_rfl) (fun _ _ _ h=>h) hS ?hy52 (by rfl) ?rest52
  case hy52=>
   intro w0 h0;go_simp;try with_reducible rfl
  simp only[Act.put,ar,an,am,ah,aj,ai];refine bi.one 8 (cK _) (by kernel_rfl) rfl (fun _ h=>by cases h) (by rfl) ?_;intro K2 hK2;go_simp
  have kT:aE (fun b=>b≠w.heap.size+3) Wc (Wc.setCell ⟨w.heap.size+3,q,none⟩ (.int .u64 (y:Nat))).drew:=by
   have h:=(aE.refl (fun b=>b≠w.heap.size+3) Wc).setCell (p:=⟨w.heap.size+3,q,none⟩) (fun h=>h rfl) (.int .u64 (y:Nat));exact⟨h.os,h.tape,h.output,h.size,h.same⟩
  have hO3:Own (Wc.setCell ⟨w.heap.size+3,q,none⟩ (.int .u64 (y:Nat))).drew (w.heap.size+3) (iu L v (q+1)):=by
   rw[<-NS.out];exact(hO2.out.set q y).drew'
  have HE:=aZ (And.intro kT (And.intro (hk.trans kT) hO3));clear kT hO3;refine hK2.out _ _ (fun h=>absurd (by decide) h) ?_;clear hK2 K2;refine bi.done (by kernel_rfl) ?_ _;gi_wp2;exact HE.out
 case done=>
  rintro D Wc hD ⟨hk,hO⟩ hd;rw[HM.out,DY L v hv0]at hO;have cR:=hk.cel c1 (by omega);have cS:=hk.cel c4 (by omega);have cV:=hk.cel c2 (by omega)
  have hb:=b4.trans (hk.below (B:=w.heap.size) (fun x h=>by omega) (by omega));have DN:D≠w.heap.size+1/\w.heap.size<=D:=⟨by omega,by omega⟩;have gN:w.heap.size+1<Wc.heap.size:=cR.lt
  have M1:=aZ (MC.out Wc (w.heap.size+3) hO);have q0:=cV.cell 0 rfl;have q1:=cS.cell 0 rfl;clear hk c0 c1 c2 c4 c5 G hO MC;go_wp2_with fail;refine M1.out.mono ?_;rintro e w4 ⟨g,k,rfl,hk2,hO4,hb4⟩
  replace cR:=cR.kept hb4;have hd4:w4.heap[D]?=some (.deferred (some [])):=(hb4.block D (Array.getElem?_eq_some_iff.1 hd).1).trans hd
  have hgN:g≠w.heap.size+1:=fun e=>by
   rw[e]at hO4;have h1:w4.heap[w.heap.size+1]?=_:=hO4;rw[show w4.heap[w.heap.size+1]?=_ from cR]at h1;simp only[Option.some.injEq,Obj.cells.injEq]at h1;exact absurd h1.2.1 (by decide)
  have hgD:g≠D:=fun e=>by
   rw[e]at hO4;have h1:w4.heap[D]?=_:=hO4;rw[hd4]at h1;cases h1
  have b5:=bg hb hb4;clear hb4 q0 q1 cS cV hd;go_wp2_with (refine aJ (w.heap.size+1) [.int .i64 0,.int .i64 0,.int .i64 0,.slice none 0 0] _ rfl rfl cR rfl m_ (by simp[Value.oneCell']) ?_)
  intro w5 B3 O3;have b6:=b5.trans (O3.below (Nat.le_succ _));have hO5:Own w5 g (mkS (loP L v) v m):=(O3.block g hgN).trans hO4;have hd5:w5.heap[D]?=some (.deferred (some [])):=(O3.block D DN.1).trans hd4
  have HZ:=aZ (And.intro B3 (And.intro hO5 (And.intro hd5 (And.intro b6 hk2))));clear B3 O3 hO5 hd5 b5 b6 hd4 hO4 cR hk2;go_wp2;obtain⟨B3,hO5,hd5,b6,hk2⟩:=HZ.out
  have cR2:=B3.put (.deferred none) (show w.heap.size+1≠D from fun e=>DN.1 e.symm);have hO6:Own (w5.putObj D (.deferred none)) g (mkS (loP L v) v m):=(World.putObj_heap_other hgD).trans hO5
  exact gQ hd5 (bj rfl (w.heap.size+1) _ rfl cR2 underlying57 m_) ⟨g,_,rfl,rfl,hO6,b6.trans (eV DN.2 _)⟩
 case stop=>
  rintro D q Wc hD hq h hd;exact h.elim
end Go.Proofs.YtleegaihbgbcjabGreatDoor
namespace Go.Proofs.YtleegaihbgbcjabGreatDoor
open Go.RowKit Num Bit
theorem Jg(N:Int)(ao:Option Addr)(xs:List Nat)(cap:Nat)(n:Int)(w:World)(hx:Wd w ao xs)(hg:aA xs)(hcap:xs.length<=cap)(hnN:n<=N):
  Qq 92 #[.agg #[.int .i64 N,.slice ao xs.length cap],.int .i64 n] w (.int .i64 (onesI N xs n)):=by
 have K:∀o,Wd (w.alloc o) ao xs:=fun o=>hx.keep (below_alloc w o);have hM:min n N=n:=by omega
 cases hk:az N xs with
 | false=>
  have R:Hid (0=onesI N xs n):=by unfold onesI Hid;rw[hk];rfl
  clear hM;go_enter func92,ntmps92;go_wp2_with (go_at_call 83;refine mr (cg _ _ _ _ _ (K _)) fun w' hb=>?_;obtain⟨c0,c1,hz,hw⟩:=cG hb;clear hb);go_ret
  exact⟨dy R.out,by assumption⟩
 | true=>
  obtain⟨hc0,hc1,hc2,_⟩:=bp N xs hk;by_cases hm:n<=0
  .have R:Hid (0=onesI N xs n):=by unfold onesI Hid;rw[hk,hM,show(n).toNat=0 by omega];rfl
   clear hM;go_enter func92,ntmps92;go_wp2_with (go_at_call 83;refine mr (cg _ _ _ _ _ (K _)) fun w' hb=>?_;obtain⟨c0,c1,hz,hw⟩:=cG hb;clear hb);go_ret
   exact⟨dy R.out,by assumption⟩
  .obtain⟨m,rfl⟩:=Int.eq_ofNat_of_zero_le (show 0<=n by omega);obtain⟨b,off,rfl,hb,hc⟩:=hx (by omega);have R:Hid (((cntB xs m:Nat):Int)=onesI N xs (m:Int)):=by unfold onesI Hid;rw[hk,hM];rfl
   have HC:Hid (∀i,i<xs.length->w.cell? ⟨b,off+i,none⟩=some (.int .u64 (gt xs i))):=hc;have hl1:m/64<=xs.length:=by omega
   have hm0:decide (m=0)=false:=by simp;omega
   have hm1:(m==0)=false:=by simp;omega
   have hl2:m/64<=cap:=by omega
   have hl3:m<=1048576:=by omega
   have HL:Hid (m%64=0\/m/64<xs.length):=by unfold Hid;omega
   have hl5:(m:Int)/64<=(cap:Int):=by omega
   clear hM hc hc2;go_enter func92,ntmps92;go_wp2_with (go_at_call 83;refine mr (cg _ _ _ _ _ (K _)) fun w' hb=>?_;obtain⟨c0,c1,hz,hw⟩:=cG hb;clear hb)
   go_loop [5,26] (fun c i=>∃k t:Nat,k<=m/64/\t<=64*k/\i=.int .i64 k/\c=.int .i64 t/\Hid (t=cntB xs (64*k))) (fun _ i=>m/64-(intOf i).toNat)
   case atStart=>exact⟨0,0,by omega,by omega,rfl,rfl,rfl⟩
   case round=>
    obtain⟨k,t,hk1,ht,rfl,rfl,H⟩:=hrel;by_cases hlt:k<m/64
    .have hck:=(hw.cell (p:=⟨b,off+k,none⟩) (by assumption)).trans (HC.out k (by omega));have hf:=hg k;have hp:=uj (gt xs k)
     go_wp2_with (go_at_call 138;refine(nZ _ ?_ ?_ _).mono ?_;exact Int.natCast_nonneg _;exact Int.ofNat_lt.2 hf;rintro e w' ⟨rfl,rfl⟩);go_round
     case rel=>
      refine⟨k+1,t+cnt (gt xs k) 64,by omega,?_,by go_num,?_,?_⟩
      .have:=dL (gt xs k) 64;omega
      .unfold fB;rw[Int.toNat_natCast];go_num
      .have e:=kJ xs k 64 (by omega);rw[show 64*(k+1)=64*k+64 by omega,e,<-H.out];rfl
     case measure=>simp only[intOf];omega
    .have hkm:k=m/64:=by omega
     have HT:Hid (t=cntB xs (64*(m/64))):=by rw[<-hkm];exact H.out
     clear H;by_cases hz0:m%64=0
     .have R2:Hid ((t:Int)=onesI N xs (m:Int)):=by
       unfold Hid;rw[<-R.out,HT.out,show 64*(m/64)=m by omega]
      have hz1:¬0<(m:Int)%64:=by omega
      clear hkm;go_wp2;go_ret;exact⟨dy R2.out,by assumption⟩
     .have hz1:0<(m:Int)%64:=by omega
      have hl6:m/64<xs.length:=by have:=HL.out;omega
      have hl7:(m:Int)/64<(xs.length:Int):=by omega
      have hck:=(hw.cell (p:=⟨b,off+m/64,none⟩) (by assumption)).trans (HC.out (m/64) hl6);have hf:=hg (m/64);have hp:=qf (gt xs (m/64)) ((m:Int)%64)
      have R2:Hid ((t:Int)+dH (gt xs (m/64)) ((m:Int)%64)=onesI N xs (m:Int)):=by
       unfold Hid;rw[<-R.out,HT.out];have e:=kJ xs (m/64) (m%64) (by omega);rw[show 64*(m/64)+m%64=m by omega]at e;rw[e];unfold dH
       rw[Int.toNat_natCast,show min ((m:Int)%64).toNat 64=m%64 by omega];omega
      clear hkm;go_wp2_with (go_at_call 145;refine(nT _ _ ?_ ?_ _).mono ?_;exact Int.natCast_nonneg _;exact Int.ofNat_lt.2 hf;rintro e w' ⟨rfl,rfl⟩);go_ret;exact⟨dy R2.out,by assumption⟩
theorem Jh(N:Int)(ao:Option Addr)(xs:List Nat)(cap:Nat)(n:Int)(w:World)(hx:Wd w ao xs)(hg:aA xs)(hcap:xs.length<=cap)(hnN:N<n):
  Qq 92 #[.agg #[.int .i64 N,.slice ao xs.length cap],.int .i64 n] w (.int .i64 (onesI N xs n)):=by
 have K:∀o,Wd (w.alloc o) ao xs:=fun o=>hx.keep (below_alloc w o);have hM:min n N=N:=by omega
 cases hk:az N xs with
 | false=>
  have R:Hid (0=onesI N xs n):=by unfold onesI Hid;rw[hk];rfl
  clear hM;go_enter func92,ntmps92;go_wp2_with (go_at_call 83;refine mr (cg _ _ _ _ _ (K _)) fun w' hb=>?_;obtain⟨c0,c1,hz,hw⟩:=cG hb;clear hb);go_ret
  exact⟨dy R.out,by assumption⟩
 | true=>
  obtain⟨hc0,hc1,hc2,_⟩:=bp N xs hk;by_cases hm:N<=0
  .have R:Hid (0=onesI N xs n):=by unfold onesI Hid;rw[hk,hM,show(N).toNat=0 by omega];rfl
   clear hM;go_enter func92,ntmps92;go_wp2_with (go_at_call 83;refine mr (cg _ _ _ _ _ (K _)) fun w' hb=>?_;obtain⟨c0,c1,hz,hw⟩:=cG hb;clear hb);go_ret
   exact⟨dy R.out,by assumption⟩
  .obtain⟨m,rfl⟩:=Int.eq_ofNat_of_zero_le (show 0<=N by omega);obtain⟨b,off,rfl,hb,hc⟩:=hx (by omega);have R:Hid (((cntB xs m:Nat):Int)=onesI (m:Int) xs n):=by unfold onesI Hid;rw[hk,hM];rfl
   have HC:Hid (∀i,i<xs.length->w.cell? ⟨b,off+i,none⟩=some (.int .u64 (gt xs i))):=hc;have hl1:m/64<=xs.length:=by omega
   have hm0:decide (m=0)=false:=by simp;omega
   have hm1:(m==0)=false:=by simp;omega
   have hl2:m/64<=cap:=by omega
   have hl3:m<=1048576:=by omega
   have HL:Hid (m%64=0\/m/64<xs.length):=by unfold Hid;omega
   have hl5:(m:Int)/64<=(cap:Int):=by omega
   clear hM hc hc2;go_enter func92,ntmps92;go_wp2_with (go_at_call 83;refine mr (cg _ _ _ _ _ (K _)) fun w' hb=>?_;obtain⟨c0,c1,hz,hw⟩:=cG hb;clear hb)
   go_loop [5,26] (fun c i=>∃k t:Nat,k<=m/64/\t<=64*k/\i=.int .i64 k/\c=.int .i64 t/\Hid (t=cntB xs (64*k))) (fun _ i=>m/64-(intOf i).toNat)
   case atStart=>exact⟨0,0,by omega,by omega,rfl,rfl,rfl⟩
   case round=>
    obtain⟨k,t,hk1,ht,rfl,rfl,H⟩:=hrel;by_cases hlt:k<m/64
    .have hck:=(hw.cell (p:=⟨b,off+k,none⟩) (by assumption)).trans (HC.out k (by omega));have hf:=hg k;have hp:=uj (gt xs k)
     go_wp2_with (go_at_call 138;refine(nZ _ ?_ ?_ _).mono ?_;exact Int.natCast_nonneg _;exact Int.ofNat_lt.2 hf;rintro e w' ⟨rfl,rfl⟩);go_round
     case rel=>
      refine⟨k+1,t+cnt (gt xs k) 64,by omega,?_,by go_num,?_,?_⟩
      .have:=dL (gt xs k) 64;omega
      .unfold fB;rw[Int.toNat_natCast];go_num
      .have e:=kJ xs k 64 (by omega);rw[show 64*(k+1)=64*k+64 by omega,e,<-H.out];rfl
     case measure=>simp only[intOf];omega
    .have hkm:k=m/64:=by omega
     have HT:Hid (t=cntB xs (64*(m/64))):=by rw[<-hkm];exact H.out
     clear H;by_cases hz0:m%64=0
     .have R2:Hid ((t:Int)=onesI (m:Int) xs n):=by
       unfold Hid;rw[<-R.out,HT.out,show 64*(m/64)=m by omega]
      have hz1:¬0<(m:Int)%64:=by omega
      clear hkm;go_wp2;go_ret;exact⟨dy R2.out,by assumption⟩
     .have hz1:0<(m:Int)%64:=by omega
      have hl6:m/64<xs.length:=by have:=HL.out;omega
      have hl7:(m:Int)/64<(xs.length:Int):=by omega
      have hck:=(hw.cell (p:=⟨b,off+m/64,none⟩) (by assumption)).trans (HC.out (m/64) hl6);have hf:=hg (m/64);have hp:=qf (gt xs (m/64)) ((m:Int)%64)
      have R2:Hid ((t:Int)+dH (gt xs (m/64)) ((m:Int)%64)=onesI (m:Int) xs n):=by
       unfold Hid;rw[<-R.out,HT.out];have e:=kJ xs (m/64) (m%64) (by omega);rw[show 64*(m/64)+m%64=m by omega]at e;rw[e];unfold dH
       rw[Int.toNat_natCast,show min ((m:Int)%64).toNat 64=m%64 by omega];omega
      clear hkm;go_wp2_with (go_at_call 145;refine(nT _ _ ?_ ?_ _).mono ?_;exact Int.natCast_nonneg _;exact Int.ofNat_lt.2 hf;rintro e w' ⟨rfl,rfl⟩);go_ret;exact⟨dy R2.out,by assumption⟩
theorem xD(N:Int)(ao:Option Addr)(xs:List Nat)(cap:Nat)(n:Int)(w:World)(hx:Wd w ao xs)(hg:aA xs)(hcap:xs.length<=cap):
  Qq 92 #[.agg #[.int .i64 N,.slice ao xs.length cap],.int .i64 n] w (.int .i64 (onesI N xs n)):=by
 by_cases h:n<=N
 .exact Jg N ao xs cap n w hx hg hcap h
 .exact Jh N ao xs cap n w hx hg hcap (by omega)
end Go.Proofs.YtleegaihbgbcjabGreatDoor
