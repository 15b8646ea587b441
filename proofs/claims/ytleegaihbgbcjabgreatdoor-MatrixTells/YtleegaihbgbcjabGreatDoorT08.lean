import Derived.Test.YtleegaihbgbcjabGreatDoorT04
import Derived.Deep.WholeRow
set_option linter.unusedVariables false
set_option linter.unusedSimpArgs false
set_option maxRecDepth 100000
set_option maxHeartbeats 16000000
open Go.Proofs.Tryz
namespace Go.Proofs.YtleegaihbgbcjabGreatDoor
open Go.RowKit Num Bit
theorem uZ(l:List Nat)(v q:Nat)(h:q<l.length):hiP (l.take (q+1)) v=hiP (l.take q) v++[gt l q/2^v+q]:=by
 have e1:(l.take (q+1)).length=q+1:=by rw[List.length_take];omega
 have e2:(l.take q).length=q:=by rw[List.length_take];omega
 unfold hiP;rw[e1,e2,List.range_succ,List.map_append];congr 1
 .refine List.map_congr_left fun i hi=>?_;have hi:=List.mem_range.1 hi;rw[oy l (q+1) i (by omega),oy l q i hi]
 .simp only[List.map_cons,List.map_nil];rw[oy l (q+1) q (by omega)]
theorem Ej(l:List Nat)(v q:Nat)(hv:0<v)(h:q<l.length):loP (l.take (q+1)) v=loP (l.take q) v++[gt l q%2^v]:=by
 unfold loP;rw[if_neg (by omega),if_neg (by omega),na l q h,List.map_append];rfl
theorem xe(l:List Nat)(x:Nat):wv l++[.int .u64 x]=wv (l++[x]):=by simp[wv]
theorem uR:(prog.info? 4).map (fun i=>(i.zero,i.size,i.bytes))=some (some (.bool false),1,1):=by kernel_rfl
theorem fH:(prog.info? 61).map (·.size)=some 8:=by kernel_rfl
theorem uP:(prog.info? 57).map (·.size)=some 4:=by kernel_rfl
theorem i_:(prog.info? 53).map (·.size)=some 2:=by kernel_rfl
theorem rK{w:World}{base n c:Nat}{ao:Option Addr}{l:List Nat}(h:w.ownsRow base 126 1 (.slice ao n c) n (wv l)):Wd w ao l:=by
 intro h0;have hlen:(wv l).length=n*1:=h.1;have hl:l.length=n:=by simp[wv]at hlen;omega
 have hk:=fun k hk=>h.lt k hk;have hc:=fun g hg=>h.cells (g:=g) hg;obtain⟨_,⟨e,e2⟩ | ⟨g,cap,cur,e,_⟩⟩:=h
 .omega
 .simp only[Value.slice.injEq]at e;obtain⟨rfl,_,rfl⟩:=e;refine⟨g,0,rfl,(hk g rfl).2,fun i hi=>?_⟩
  have hu:(wv l)[i]?=some (.int .u64 (gt l i)):=by
   unfold wv gt;rw[List.getElem?_map,List.getD_eq_getElem?_getD,List.getElem?_eq_getElem hi];rfl
  rw[<-hc g rfl i _ hu];unfold Addr.add;split
  .subst_vars;rfl
  .simp
theorem tG(n:Nat)(lo:Option Addr)(l:List Nat)(lc:Nat)(w:World)(hN:Nd w lo (lz l))(hr:bi l n)(hn:n<=3000):
  Calls prog 111 #[.int .i64 n,.slice lo l.length lc] w fun e w'=>∃bo bc qo qc,e=.returned (.tuple #[.agg #[.int .i64 (aG n l).N,.int .i64 (aG n l).M,.int .i64 (aG n l).k,.int .i64 (aG n l).V,.int .i64 (aG n l).LM,.slice bo (aG n l).xs.length bc,.int .i64 (aG n l).H,.slice qo (aG n l).ys.length qc],.int .i64 0])/\(Wd w' bo (aG n l).xs/\(aG n l).xs.length<=bc/\Wd w' qo (aG n l).ys/\(aG n l).ys.length<=qc)/\Below w.heap.size w w':=by
 have hl:=hr.len;have hw20:=fP n l.length (by omega);obtain⟨i4,hi4,za4,zb4,zc4⟩:=info_parts uR;obtain⟨i6,hi6,za6,zb6,zc6⟩:=info_parts Tryz.info126
 obtain⟨v,hv⟩:∃v,Hid (v=wdF n l.length):=⟨_,rfl⟩;have v20:v<=20:=by rw[hv.out];exact hw20
 obtain⟨E,hE⟩:∃E,Hid (E=n/2^v):=⟨_,rfl⟩;have lE:E<=3000:=by rw[hE.out];exact Nat.le_trans (Nat.div_le_self _ _) hn
 have sE:(n:Int)/2^v=(E:Int):=by rw[hE.out,Int.natCast_ediv,Int.natCast_pow];rfl
 have hHn:Hid (l.length+E+1=hiN l n v):=by show _=_;unfold hiN;rw[hE.out]
 have WC:Hid (∀w0,Qq 164 #[.int .i64 n,.int .i64 l.length] w0 (.int .i64 v)):=fun w0=>by
  have:=vG n l.length (by omega) hl w0;rw[<-hv.out]at this;exact this
 have v64:(v:Int)<64:=by omega
 obtain⟨W,hW⟩:∃W,W=w.alloc (.cells #[.int .i64 0,.int .i64 0,.int .i64 0,.int .i64 0,.int .i64 0,.slice none 0 0,.int .i64 0,.slice none 0 0] 61):=⟨_,rfl⟩;have bW:=aY hW;have B4:=bj hW
 go_enter func111,ntmps111;go_wp2_with fail;rw[<-hW];clear hW;refine mr (WC.out _) fun w1 hb=>?_;have bw1:=bg bW hb;replace B4:=B4.kept hb;clear hb WC bW W
 go_wp2_with (at_make;refine wpList_make_full _ rfl _ _ 73 rfl (w1.heap.size+1) 4 i4 (.bool false) 1 underlying73 hi4 za4 zb4 .i64 .i64 _ _ (l.length+E+1) rfl rfl rfl rfl ?b2 ?b3 ?b4 ?_)
 case b2=>rw[zc4];omega
 case b3=>unfold maxLen;omega
 case b4=>simp
 intro w2 hown hgr;have hH:=wL hown
 have bG:Below (w1.heap.size+1) (w1.alloc (.cells #[.int .i64 n,.int .i64 l.length,.int .i64 0,.int .i64 0,.int .i64 0,.slice none 0 0,.int .i64 0,.slice none 0 0] 61)) w2:=(Below.refl _ _).grown hgr (by simp) (fun k h=>by cases h)
 have B7:aa w2 w1.heap.size [.int .i64 n,.int .i64 l.length,.int .i64 0,.int .i64 0,.int .i64 0,.slice none 0 0,.int .i64 0,.slice none 0 0] 61:=(aa.new w1 _ _).keep bG (Nat.lt_succ_self _)
 have bw2:Below w.heap.size w w2:=(bw1.trans ((below_alloc w1 _).mono bw1.size)).trans (bG.mono (Nat.le_succ_of_le bw1.size));have z4:=B4.lt
 replace B4:=(B4.kept (below_alloc w1 (.cells #[.int .i64 n,.int .i64 l.length,.int .i64 0,.int .i64 0,.int .i64 0,.slice none 0 0,.int .i64 0,.slice none 0 0] 61))).keep bG (Nat.lt_succ_of_lt z4);clear hown hgr bG bw1
 go_wp2;generalize w1.heap.size=g7 at *;clear w1
 go_loopw [9,10] (fun lv_ iv_ wr=>∃q:Nat,q<=l.length/\iv_=.int .i64 q/\aa wr (g7+1) (dz (l.length+E+1) (isIn (hiP (l.take q) v))) 4/\wr.ownsRow (g7+2) 126 1 lv_ (loP (l.take q) v).length (wv (loP (l.take q) v))/\aa wr w.heap.size [.int .i64 0,.int .i64 0,.int .i64 0,.int .i64 0,.int .i64 0,.slice none 0 0,.int .i64 0,.slice none 0 0] 61/\aa wr g7 [.int .i64 n,.int .i64 l.length,.int .i64 0,.int .i64 0,.int .i64 0,.slice none 0 0,.int .i64 0,.slice none 0 0] 61/\Below w.heap.size w wr) (fun _ iv_ _=>l.length-(intOf iv_).toNat)
 case atStart=>exact⟨0,Nat.zero_le _,rfl,hH,by rw[show loP (l.take 0) v=[]by unfold loP;split<;>simp];exact World.ownsRow_nil _ _ _ _,B4,B7,bw2⟩
 case round=>
  obtain⟨q,hq,rfl,hB,hown,b4,b7,hwr⟩:=hrel;clear hH B4 B7 bw2;obtain⟨so,sc,rfl,hsc, -⟩:=Ap.owns_shape hown;by_cases hlt:q<l.length
  .have hlt2:(q:Int)<(l.length:Int):=by omega
   obtain⟨b,off,rfl,hbl,hcel⟩:=hN (by rw[fF];omega);have cq0:=hcel q (by rw[fF];exact hlt);rw[j6]at cq0;have cq:=(hwr.cell (p:=⟨b,off+q,none⟩) hbl).trans cq0;have xl:=hr.1 q hlt
   obtain⟨x,hx⟩:∃x,Hid (x=gt l q):=⟨_,rfl⟩;rw[<-hx.out]at cq cq0 xl;obtain⟨d,hd⟩:∃d,Hid (d=x/2^v):=⟨_,rfl⟩
   have sd:(x:Int)/2^v=(d:Int):=by rw[hd.out,Int.natCast_ediv,Int.natCast_pow];rfl
   have dE:d<=E:=by rw[hd.out,hE.out];exact Nat.div_le_div_right (Nat.le_of_lt xl)
   have jH:(d:Int)+(q:Int)<(l.length:Int)+(E:Int)+1:=by omega
   have jH2:d+q<l.length+E+1:=by omega
   have jn:((d:Int)+(q:Int)).toNat=d+q:=by omega
   have cj:=hB.cell (d+q) (mL _ _ _ jH2);have fj:=hB.frozen (d+q);have st:=hB.set (d+q) (.bool true);rw[wm]at st
   have HS:Hid (aa (wr.setCell ⟨g7+1,d+q,none⟩ (.bool true)) (g7+1) (dz (l.length+E+1) (isIn (hiP (l.take (q+1)) v))) 4):=by
    show aa _ _ _ _;rw[uZ l v q hlt,q_ _ (isIn (hiP (l.take q) v++[gt l q/2^v+q])) _ (fun i _=>om _ _ _),<-hx.out,<-hd.out];exact st
   have O1:aB (g7+1) wr (wr.setCell ⟨g7+1,d+q,none⟩ (.bool true)):=(aB.refl _ _).set _ _;have own1:=O1.owns hown (Nat.lt_succ_self _);have c4:=O1.cel b4 (by omega);have c7:=O1.cel b7 (by omega)
   have hw1:=hwr.trans (O1.below (by omega));clear st hB hown b4 b7 O1;by_cases hv0:v=0
   .have nv1:¬(0:Int)<(v:Int):=by omega
    have nv2:¬0<v:=by omega
    have HO:Hid ((wr.setCell ⟨g7+1,d+q,none⟩ (.bool true)).ownsRow (g7+2) 126 1 (.slice so (loP (l.take q) v).length sc) (loP (l.take (q+1)) v).length (wv (loP (l.take (q+1)) v))):=by
     have e:∀q,loP (l.take q) v=[]:=fun q=>by rw[hv0];rfl
     rw[e]at own1;show(wr.setCell _ _).ownsRow _ _ _ _ _ _;rw[e,e];exact own1
    clear own1 hv0;go_wp2;exact⟨⟨q+1,by omega,by go_num,HS.out,HO.out,c4,c7,hw1⟩,by simp only[intOf];omega⟩
   .have nv1:(0:Int)<(v:Int):=by omega
    have nv2:0<v:=by omega
    obtain⟨y,hy⟩:∃y,Hid (y=x%2^v):=⟨_,rfl⟩;obtain⟨P2,hP2⟩:∃P2:Nat,Hid (P2=2^v):=⟨2^v,(rfl:2^v=2^v)⟩
    have pw:IntKind.u64.wrap ((2:Int)^v)=(P2:Int):=by rw[Bit.shl_one v (by omega),hP2.out]
    have p0:((P2:Int)==0)=false:=by have:=Nat.two_pow_pos v;rw[<-hP2.out]at this;simp;omega
    have p1:¬(P2:Int)=0:=by have:=Nat.two_pow_pos v;rw[<-hP2.out]at this;omega
    have ym:(x:Int)%(P2:Int)=(y:Int):=by rw[hy.out,<-hP2.out];omega
    have yt:(x:Int).tmod (P2:Int)=(y:Int):=by rw[Int.tmod_eq_emod_of_nonneg (by omega)];exact ym
    have yl:y<=x:=by rw[hy.out];exact Nat.mod_le _ _
    have hlen:(loP (l.take q) v).length=q:=by rw[iZ _ _ nv2,List.length_take];omega
    have HLL:Hid ((loP (l.take q) v).length=q):=hlen;have HT:Hid (loP (l.take (q+1)) v=loP (l.take q) v++[y]):=by show _=_;rw[Ej l v q nv2 hlt,hy.out,hx.out]
    obtain⟨V1,hV1⟩:∃V1,V1=wr.setCell ⟨g7+1,d+q,none⟩ (.bool true):=⟨_,rfl⟩;rw[<-hV1]at HS own1 c4 c7 hw1;generalize loP (l.take q) v=L at *;have bA:=below_alloc V1 (.cells #[.int .u64 (y:Int)] 126)
    have own3:=Ap.owns_below own1 bA;have src3:(V1.alloc (.cells #[.int .u64 (y:Int)] 126)).cell? ⟨V1.heap.size,0,none⟩=some (.int .u64 (y:Int)):=(aa.new V1 [.int .u64 (y:Int)] 126).cell 0 rfl
    have k4:=c4.kept bA;have k7:=c7.kept bA;have kS:=HS.out.kept bA;have g3:g7+2<=(V1.alloc (.cells #[.int .u64 (y:Int)] 126)).heap.size:=kS.lt;have hw3:=bg hw1 bA
    have cqV:=(hw1.cell (p:=⟨b,off+q,none⟩) hbl).trans cq0;clear own1 c4 c7 hw1 HS bA hlen;go_upto_if 50 with fail
    rw[<-hV1];clear hV1 cj fj cq cq0
    go_wp2_with (at_builtin;refine Ap.wpList_append_u rfl _ _ 51 rfl (g7+2) 126 i6 (.int .u64 0) 8 underlying51 hi6 za6 zb6 zc6 rfl (.slice so L.length sc) L.length (wv L) rfl own3 (some ⟨V1.heap.size,0,none⟩) 1 1 [.int .u64 (y:Int)] rfl rfl ?d1 ?d2 ?d3 ?d4 ?d5 ?_)
    case d1=>exact fun _=>⟨_,rfl,fun j u hj=>by
     match j,hj with
     | 0,hj=>simp at hj;subst hj;exact src3⟩
    case d2=>intro u hu;simp at hu;subst hu;rfl
    case d3=>have:=HLL.out;unfold maxLen;omega
    case d4=>have:=HLL.out;omega
    case d5=>exact g3
    intro to_ tc_ w4 own4 hle4 hB4;rw[xe]at own4
    have HO:Hid (w4.ownsRow (g7+2) 126 1 (.slice to_ (L.length+1) tc_) (loP (l.take (q+1)) v).length (wv (loP (l.take (q+1)) v))):=by
     show w4.ownsRow _ _ _ _ _ _;rw[HT.out,List.length_append];exact own4
    have m4:=k4.keep hB4 (by omega);have m7:=k7.keep hB4 (by omega);have mS:=kS.keep hB4 (by omega);have hw4:=hw3.trans (hB4.mono (by omega));clear own4 own3 hB4 k4 k7 kS hw3 src3 g3 HT
    have HF:=Hid.mk9 (And.intro mS (And.intro HO.out (And.intro m4 (And.intro m7 hw4))));clear mS HO m4 m7 hw4;go_wp2
    exact⟨⟨q+1,by omega,by go_num,HF.out.1,HF.out.2.1,HF.out.2.2.1,HF.out.2.2.2.1,HF.out.2.2.2.2⟩,by simp only[intOf];omega⟩
  .obtain rfl:q=l.length:=by omega
   rw[List.take_of_length_le (Nat.le_refl l.length)]at hown hB hsc⊢;obtain⟨L,hL⟩:∃L,Hid (L=loP l v):=⟨_,rfl⟩;obtain⟨Hn,hHd⟩:∃Hn,Hid (Hn=hiN l n v):=⟨_,rfl⟩
   obtain⟨X,hX⟩:∃X,Hid (X=mkS L (max v 1) L.length):=⟨_,rfl⟩;obtain⟨Y,hY⟩:∃Y,Hid (Y=rowOf Hn (isIn (hiP l v))):=⟨_,rfl⟩;rw[<-hL.out]at hown hsc⊢
   have hHE:l.length+E+1=Hn:=by rw[hHd.out];exact hHn.out
   have lHn:Hn<=6001:=by omega
   have cHn:(l.length:Int)+(E:Int)+1=(Hn:Int):=by omega
   rw[hHE]at hB⊢;have lL:L.length<=3000:=by have:=mp l v;rw[<-hL.out]at this;omega
   have ltv:∀i,gt L i<2^(max v 1):=fun i=>by rw[hL.out];exact nX l v i
   have fitL:aA L:=fun i=>by
    have h1:=ltv i;have:2^(max v 1)<=2^20:=Nat.pow_le_pow_right (by decide) (by omega);omega
   have ltN:∀j,j<L.length->bI (gt L j)<=((max v 1:Nat):Int):=fun j _=>by
    have:=iB (gt L j) (max v 1) (ltv j);unfold bI;rw[Int.toNat_natCast];omega
   have hWd:=rK hown
   have FR:Hid (∀w0:World,aa w0 (g7+1) (dz Hn (isIn (hiP l v))) 4->Calls prog 33 #[.slice (some ⟨g7+1,0,none⟩) Hn Hn] w0 fun e w'=>∃g,e=.returned (.tuple #[.agg #[.int .i64 Hn,.slice (some ⟨g,0,none⟩) Y.length Y.length],.int .i64 0])/\w0.heap.size<=g/\Own w' g Y/\Below w0.heap.size w0 w'):=fun w0 h=>by
    have hlen:(fp Hn (isIn (hiP l v))).length=Hn:=by simp[fp]
    have h3:=kG (some ⟨g7+1,0,none⟩) (fp Hn (isIn (hiP l v))) Hn _ w0 (wB h) (by rw[hlen];omega) rfl;rw[ln]at h3
    have e6:aC (fp Hn (isIn (hiP l v)))=Y:=by
     rw[hY.out];unfold aC;rw[hlen];refine cU Hn _ _ fun i hi=>?_;unfold bt fp;rw[List.getD_eq_getElem?_getD,List.getElem?_map,List.getElem?_range hi];rfl
    have e5:Y.length=(Hn+63)/64:=by rw[hY.out];exact cM _ _
    rw[hlen,e6]at h3;rw[e5];exact h3
   clear hHE hown;by_cases hv0:v=0
   .skip;have ltL:∀j,j<L.length->bI (gt L j)<=1:=fun j hj=>by have:=ltN j hj;omega
    have c1:(v:Int)<1:=by omega
    have c2:v<1:=by omega
    have c3:(v:Int)<=1:=by omega
    have c4:max (v:Int) 1=1:=by omega
    clear ltN ltv
    have EA:Hid ((aG n l).N=(n:Int)/\(aG n l).M=(l.length:Int)/\(aG n l).k=(L.length:Int)/\(aG n l).V=1/\(aG n l).LM=(L.length:Int)/\(aG n l).xs=X/\(aG n l).H=(Hn:Int)/\(aG n l).ys=Y):=by
     refine⟨rfl,rfl,?_,?_,?_,?_,?_,?_⟩
     .show((loP l (wdF n l.length)).length:Int)=_;rw[<-hv.out,<-hL.out]
     .show((max (wdF n l.length) 1:Nat):Int)=1;rw[<-hv.out];omega
     .show((loP l (wdF n l.length)).length:Int)*((max (wdF n l.length) 1:Nat):Int)=(L.length:Int);rw[<-hv.out,<-hL.out,show((max v 1:Nat):Int)=1 by omega];exact Int.mul_one _
     .show mkS (loP l (wdF n l.length)) (max (wdF n l.length) 1) (loP l (wdF n l.length)).length=X;rw[<-hv.out,<-hL.out,hX.out]
     .show((hiN l n (wdF n l.length):Nat):Int)=_;rw[<-hv.out,<-hHd.out]
     .show rowOf (hiN l n (wdF n l.length)) (isIn (hiP l (wdF n l.length)))=Y;rw[<-hv.out,<-hHd.out,hY.out]
    have MK:Hid (∀w0,Wd w0 so L->Calls prog 110 #[.int .i64 1,.slice so L.length sc] w0 fun e w'=>∃bo dap,e=.returned (.tuple #[.agg #[.int .i64 L.length,.int .i64 1,.int .i64 (L.length:Int),.slice bo X.length dap],.int .i64 0])/\mW w0 w' bo X dap):=fun w0 h=>by
     have h3:=pB 1 so L sc w0 h fitL (by omega)
     have e0:cg 1 L=0:=by
      unfold cg;rw[if_neg];rintro(c | c | c | c)
      .omega
      .omega
      .have:=Nat.mul_le_mul lL v20;have:(L.length:Int)*(v:Int)<=60000:=by rw[<-Int.natCast_mul];omega
       omega
      .exact c ltL
     have e1:gY 1 L=(L.length:Int):=by unfold gY;rw[if_pos e0]
     have e2:gW 1 L=1:=by unfold gW;rw[if_pos e0]
     have e3:g_ 1 L=(L.length:Int):=by unfold g_;rw[if_pos e0];exact Int.mul_one _
     have e4:fI 1 L=X:=by unfold fI;rw[if_pos e0,hX.out,show max v 1=1 by omega];rfl
     rw[e0,e1,e2,e3,e4]at h3;exact h3
    clear hL hX hY hHd hv0;have lb7:=b7.lt;have lb4:=b4.lt;go_wp2_with fail;refine(MK.out _ hWd).mono ?_;rintro e w5 ⟨bo,dap,rfl,h5X, -,h5l,h5n,hb⟩;replace hB:=hB.kept hb;replace b4:=b4.kept hb
    replace b7:=b7.kept hb;replace hwr:=bg hwr hb;clear hb MK hWd
    obtain⟨V5,hV5⟩:∃V5,V5=w5.alloc (.cells #[.int .i64 L.length,.int .i64 1,.int .i64 (L.length:Int),.slice bo X.length dap] 57):=⟨_,rfl⟩;have bA:Below w5.heap.size w5 V5:=by rw[hV5];exact below_alloc w5 _
    have D11:aa V5 w5.heap.size [.int .i64 L.length,.int .i64 1,.int .i64 (L.length:Int),.slice bo X.length dap] 57:=by rw[hV5];exact aa.new w5 _ _
    have ne11:g7≠w5.heap.size:=by have:=b7.lt;omega
    have nf11:w.heap.size≠w5.heap.size:=by have:=b4.lt;omega
    replace hB:=hB.kept bA;replace b4:=b4.kept bA;replace b7:=b7.kept bA;replace h5X:=h5X.keep bA;replace hwr:=bg hwr bA;clear bA;go_wp2_with fail;rw[<-hV5];clear hV5;refine(FR.out _ hB).mono ?_
    rintro e w6 ⟨g5,rfl,hg5,hOw,hb⟩;have g5n:g7<g5:=Nat.lt_of_lt_of_le b7.lt hg5;replace D11:=D11.kept hb;replace b4:=b4.kept hb;replace b7:=b7.kept hb;replace h5X:=h5X.keep hb
    replace hwr:=bg hwr hb;have hYd:=hOw.wd;clear hb FR hOw hB hg5;obtain⟨V6,hV6⟩:∃V6,V6=w6.alloc (.cells #[.int .i64 Hn,.slice (some ⟨g5,0,none⟩) Y.length Y.length] 53):=⟨_,rfl⟩
    have bA:Below w6.heap.size w6 V6:=by rw[hV6];exact below_alloc w6 _
    have D13:aa V6 w6.heap.size [.int .i64 Hn,.slice (some ⟨g5,0,none⟩) Y.length Y.length] 53:=by rw[hV6];exact aa.new w6 _ _
    have ne13:g7≠w6.heap.size:=by have:=b7.lt;omega
    replace D11:=D11.kept bA;replace b4:=b4.kept bA;replace b7:=b7.kept bA;replace h5X:=h5X.keep bA;replace hYd:=hYd.keep bA;replace hwr:=bg hwr bA;clear bA;go_upto_region 15 with fail
    rw[<-hV6];clear hV6;generalize w6.heap.size=g13 at *;generalize w5.heap.size=g11 at *
    refine bm [5] (fun w'=>aa w' g11 [.int .i64 L.length,.int .i64 1,.int .i64 (L.length:Int),.slice bo X.length dap] 57/\aa w' g13 [.int .i64 Hn,.slice (some ⟨g5,0,none⟩) Y.length Y.length] 53) (by kernel_rfl) ?_
    have bD:Below V6.heap.size V6 V6.drew:=(Below.refl _ _).drew;have hS:=And.intro (D11.kept bD) (D13.kept bD);replace b4:=b4.kept bD;replace b7:=b7.kept bD;replace h5X:=h5X.keep bD;replace hYd:=hYd.keep bD
    replace hwr:=bg hwr bD;clear bD D11 D13;generalize V6.drew=wd at *
    refine aw.take 0 (v:=.agg [.int .i64 L.length,.int .i64 1,.int .i64 (L.length:Int),.slice bo X.length dap].toArray) rfl (by kernel_rfl) (by kernel_rfl) (by kernel_rfl) (by kernel_rfl) (fun _ _ _ h=>h) hS ?hy1 (by rfl) ?rest1
    case hy1=>
     intro w0 h0;exact kC g11 [.int .i64 L.length,.int .i64 1,.int .i64 (L.length:Int),.slice bo X.length dap] rfl h0.1 underlying57 uP
    try simp only[Act.put,ah,aj,ai]
    refine aw.take 1 (v:=.agg [.int .i64 Hn,.slice (some ⟨g5,0,none⟩) Y.length Y.length].toArray) rfl (by kernel_rfl) (by kernel_rfl) (by kernel_rfl) (by kernel_rfl) (fun _ _ _ h=>h) hS ?hy2 (by rfl) ?rest2
    case hy2=>
     intro w0 h0;exact kC g13 [.int .i64 Hn,.slice (some ⟨g5,0,none⟩) Y.length Y.length] rfl h0.2 underlying53 i_
    try simp only[Act.put,ah,aj,ai]
    refine aw.takeW 2 (v:=?vv3) rfl (by kernel_rfl) (by kernel_rfl) (by kernel_rfl) (fun _ _ _ h=>h) ?hy3 (by rfl) ?rest3
    case hy3=>
     intro w0;go_simp;try with_reducible rfl
    try simp only[Act.put,ah,aj,ai]
    refine aO 3 ?_;intro K hK;have x2:=b7.cell 2 rfl;have x3:=b7.cell 3 rfl;have x4:=b7.cell 4 rfl;have x5:=b7.cell 5 rfl;have y2:=b7.frozen 2;have y3:=b7.frozen 3;have y4:=b7.frozen 4;have y5:=b7.frozen 5
    go_simp
    refine hK.out _ _ (fun _=>⟨((((hS.1.other (by show g11≠g7;omega) _).other (by show g11≠g7;omega) _).other (by show g11≠g7;omega) _).other (by show g11≠g7;omega) _),((((hS.2.other (by show g13≠g7;omega) _).other (by show g13≠g7;omega) _).other (by show g13≠g7;omega) _).other (by show g13≠g7;omega) _)⟩) ?_
    clear hK K x2 x3 x4 x5 y2 y3 y4 y5;try simp only[Act.put,ah,aj,ai]
    have O3:aB g7 wd ((((wd.setCell ⟨g7,2,none⟩ (.int .i64 L.length)).setCell ⟨g7,3,none⟩ (.int .i64 1)).setCell ⟨g7,4,none⟩ (.int .i64 (L.length:Int))).setCell ⟨g7,5,none⟩ (.slice bo X.length dap)):=((((aB.refl g7 wd).set 2 _).set 3 _).set 4 _).set 5 _
    have q7:=(((b7.set 2 (.int .i64 L.length)).set 3 (.int .i64 1)).set 4 (.int .i64 (L.length:Int))).set 5 (.slice bo X.length dap)
    generalize ((((wd.setCell ⟨g7,2,none⟩ (.int .i64 L.length)).setCell ⟨g7,3,none⟩ (.int .i64 1)).setCell ⟨g7,4,none⟩ (.int .i64 (L.length:Int))).setCell ⟨g7,5,none⟩ (.slice bo X.length dap))=we at *
    refine aw.takeW 4 (v:=?vv4) rfl (by kernel_rfl) (by kernel_rfl) (by kernel_rfl) (fun _ _ _ h=>h) ?hy4 (by rfl) ?rest4
    case hy4=>
     intro w0;go_simp;try with_reducible rfl
    try simp only[Act.put,ah,aj,ai]
    refine aO 5 ?_;intro K hK;have x6:=q7.cell 6 rfl;have x7:=q7.cell 7 rfl;have y6:=q7.frozen 6;have y7:=q7.frozen 7;go_simp;refine hK.out _ _ (fun h=>absurd (by decide) h) ?_;clear hK K x6 x7 y6 y7
    try simp only[Act.put,ah,aj,ai]
    refine aw.done (by kernel_rfl) ?_ _;have O5:aB g7 wd ((we.setCell ⟨g7,6,none⟩ (.int .i64 Hn)).setCell ⟨g7,7,none⟩ (.slice (some ⟨g5,0,none⟩) Y.length Y.length)):=O3.trans (((aB.refl g7 we).set 6 _).set 7 _)
    have r7:=(q7.set 6 (.int .i64 Hn)).set 7 (.slice (some ⟨g5,0,none⟩) Y.length Y.length)
    generalize ((we.setCell ⟨g7,6,none⟩ (.int .i64 Hn)).setCell ⟨g7,7,none⟩ (.slice (some ⟨g5,0,none⟩) Y.length Y.length))=wf at *;replace b4:=O5.cel b4 (by omega)
    replace h5X:=O5.wd h5X (fun a _ ha=>by have:=h5n a ha;omega);replace hYd:=O5.wd hYd (fun a _ ha=>by cases ha;show g5≠g7;omega);replace hwr:=hwr.trans (O5.below (by omega));clear O3 O5 q7 b7 hS
    have r7b:aa wf g7 [.int .i64 n,.int .i64 l.length,.int .i64 L.length,.int .i64 1,.int .i64 (L.length:Int),.slice bo X.length dap,.int .i64 Hn,.slice (some ⟨g5,0,none⟩) Y.length Y.length] 61:=r7
    go_wp2_with (first | refine gm g7 _ rfl r7b underlying61 fH ?_ | refine aU w.heap.size _ _ rfl rfl b4 rfl fH (by simp[Value.oneCell']) ?_);intro wg r4 O4
    have HZ:=Hid.mk9 (And.intro r4 (And.intro (O4.wd h5X (fun a _ ha=>by have:=h5n a ha;omega)) (And.intro (O4.wd hYd (fun a _ ha=>by cases ha;show g5≠w.heap.size;omega)) (hwr.trans (O4.below (Nat.le_refl _))))))
    clear r4 O4 b4 h5X hYd hwr r7 r7b;go_wp2
    (try simp only[Exit.inBlock,Exit.then]);refine bodyPost_ret (bF rfl w.heap.size _ rfl HZ.out.1 underlying61 fH) rfl ⟨bo,dap,some ⟨g5,0,none⟩,Y.length,?_,?_,HZ.out.2.2.2⟩
    .rw[EA.out.1,EA.out.2.1,EA.out.2.2.1,EA.out.2.2.2.1,EA.out.2.2.2.2.1,EA.out.2.2.2.2.2.1,EA.out.2.2.2.2.2.2.1,EA.out.2.2.2.2.2.2.2];rfl
    .rw[EA.out.2.2.2.2.2.1,EA.out.2.2.2.2.2.2.2];exact⟨HZ.out.2.1,h5l,HZ.out.2.2.1,Nat.le_refl _⟩
   .skip;have ltL:∀j,j<L.length->bI (gt L j)<=(v:Int):=fun j hj=>by have:=ltN j hj;omega
    have c1:¬(v:Int)<1:=by omega
    have c2:¬v<1:=by omega
    have c3:(1:Int)<=(v:Int):=by omega
    have c4:max (v:Int) 1=(v:Int):=by omega
    clear ltN ltv
    have EA:Hid ((aG n l).N=(n:Int)/\(aG n l).M=(l.length:Int)/\(aG n l).k=(L.length:Int)/\(aG n l).V=(v:Int)/\(aG n l).LM=((L.length:Int)*(v:Int))/\(aG n l).xs=X/\(aG n l).H=(Hn:Int)/\(aG n l).ys=Y):=by
     refine⟨rfl,rfl,?_,?_,?_,?_,?_,?_⟩
     .show((loP l (wdF n l.length)).length:Int)=_;rw[<-hv.out,<-hL.out]
     .show((max (wdF n l.length) 1:Nat):Int)=(v:Int);rw[<-hv.out];omega
     .show((loP l (wdF n l.length)).length:Int)*((max (wdF n l.length) 1:Nat):Int)=((L.length:Int)*(v:Int));rw[<-hv.out,<-hL.out,show((max v 1:Nat):Int)=(v:Int)by omega]
     .show mkS (loP l (wdF n l.length)) (max (wdF n l.length) 1) (loP l (wdF n l.length)).length=X;rw[<-hv.out,<-hL.out,hX.out]
     .show((hiN l n (wdF n l.length):Nat):Int)=_;rw[<-hv.out,<-hHd.out]
     .show rowOf (hiN l n (wdF n l.length)) (isIn (hiP l (wdF n l.length)))=Y;rw[<-hv.out,<-hHd.out,hY.out]
    have MK:Hid (∀w0,Wd w0 so L->Calls prog 110 #[.int .i64 (v:Int),.slice so L.length sc] w0 fun e w'=>∃bo dap,e=.returned (.tuple #[.agg #[.int .i64 L.length,.int .i64 (v:Int),.int .i64 ((L.length:Int)*(v:Int)),.slice bo X.length dap],.int .i64 0])/\mW w0 w' bo X dap):=fun w0 h=>by
     have h3:=pB (v:Int) so L sc w0 h fitL (by omega)
     have e0:cg (v:Int) L=0:=by
      unfold cg;rw[if_neg];rintro(c | c | c | c)
      .omega
      .omega
      .have:=Nat.mul_le_mul lL v20;have:(L.length:Int)*(v:Int)<=60000:=by rw[<-Int.natCast_mul];omega
       omega
      .exact c ltL
     have e1:gY (v:Int) L=(L.length:Int):=by unfold gY;rw[if_pos e0]
     have e2:gW (v:Int) L=(v:Int):=by unfold gW;rw[if_pos e0]
     have e3:g_ (v:Int) L=((L.length:Int)*(v:Int)):=by unfold g_;rw[if_pos e0]
     have e4:fI (v:Int) L=X:=by unfold fI;rw[if_pos e0,hX.out,show max v 1=v by omega];rfl
     rw[e0,e1,e2,e3,e4]at h3;exact h3
    clear hL hX hY hHd;have lb7:=b7.lt;have lb4:=b4.lt;go_wp2_with fail;refine(MK.out _ hWd).mono ?_;rintro e w5 ⟨bo,dap,rfl,h5X, -,h5l,h5n,hb⟩;replace hB:=hB.kept hb;replace b4:=b4.kept hb
    replace b7:=b7.kept hb;replace hwr:=bg hwr hb;clear hb MK hWd
    obtain⟨V5,hV5⟩:∃V5,V5=w5.alloc (.cells #[.int .i64 L.length,.int .i64 (v:Int),.int .i64 ((L.length:Int)*(v:Int)),.slice bo X.length dap] 57):=⟨_,rfl⟩
    have bA:Below w5.heap.size w5 V5:=by rw[hV5];exact below_alloc w5 _
    have D11:aa V5 w5.heap.size [.int .i64 L.length,.int .i64 (v:Int),.int .i64 ((L.length:Int)*(v:Int)),.slice bo X.length dap] 57:=by rw[hV5];exact aa.new w5 _ _
    have ne11:g7≠w5.heap.size:=by have:=b7.lt;omega
    have nf11:w.heap.size≠w5.heap.size:=by have:=b4.lt;omega
    replace hB:=hB.kept bA;replace b4:=b4.kept bA;replace b7:=b7.kept bA;replace h5X:=h5X.keep bA;replace hwr:=bg hwr bA;clear bA;go_wp2_with fail;rw[<-hV5];clear hV5;refine(FR.out _ hB).mono ?_
    rintro e w6 ⟨g5,rfl,hg5,hOw,hb⟩;have g5n:g7<g5:=Nat.lt_of_lt_of_le b7.lt hg5;replace D11:=D11.kept hb;replace b4:=b4.kept hb;replace b7:=b7.kept hb;replace h5X:=h5X.keep hb
    replace hwr:=bg hwr hb;have hYd:=hOw.wd;clear hb FR hOw hB hg5;obtain⟨V6,hV6⟩:∃V6,V6=w6.alloc (.cells #[.int .i64 Hn,.slice (some ⟨g5,0,none⟩) Y.length Y.length] 53):=⟨_,rfl⟩
    have bA:Below w6.heap.size w6 V6:=by rw[hV6];exact below_alloc w6 _
    have D13:aa V6 w6.heap.size [.int .i64 Hn,.slice (some ⟨g5,0,none⟩) Y.length Y.length] 53:=by rw[hV6];exact aa.new w6 _ _
    have ne13:g7≠w6.heap.size:=by have:=b7.lt;omega
    replace D11:=D11.kept bA;replace b4:=b4.kept bA;replace b7:=b7.kept bA;replace h5X:=h5X.keep bA;replace hYd:=hYd.keep bA;replace hwr:=bg hwr bA;clear bA;go_upto_region 15 with fail
    rw[<-hV6];clear hV6;generalize w6.heap.size=g13 at *;generalize w5.heap.size=g11 at *
    refine bm [5] (fun w'=>aa w' g11 [.int .i64 L.length,.int .i64 (v:Int),.int .i64 ((L.length:Int)*(v:Int)),.slice bo X.length dap] 57/\aa w' g13 [.int .i64 Hn,.slice (some ⟨g5,0,none⟩) Y.length Y.length] 53) (by kernel_rfl) ?_
    have bD:Below V6.heap.size V6 V6.drew:=(Below.refl _ _).drew;have hS:=And.intro (D11.kept bD) (D13.kept bD);replace b4:=b4.kept bD;replace b7:=b7.kept bD;replace h5X:=h5X.keep bD;replace hYd:=hYd.keep bD
    replace hwr:=bg hwr bD;clear bD D11 D13;generalize V6.drew=wd at *
    refine aw.take 0 (v:=.agg [.int .i64 L.length,.int .i64 (v:Int),.int .i64 ((L.length:Int)*(v:Int)),.slice bo X.length dap].toArray) rfl (by kernel_rfl) (by kernel_rfl) (by kernel_rfl) (by kernel_rfl) (fun _ _ _ h=>h) hS ?hy5 (by rfl) ?rest5
    case hy5=>
     intro w0 h0;exact kC g11 [.int .i64 L.length,.int .i64 (v:Int),.int .i64 ((L.length:Int)*(v:Int)),.slice bo X.length dap] rfl h0.1 underlying57 uP
    try simp only[Act.put,ah,aj,ai]
    refine aw.take 1 (v:=.agg [.int .i64 Hn,.slice (some ⟨g5,0,none⟩) Y.length Y.length].toArray) rfl (by kernel_rfl) (by kernel_rfl) (by kernel_rfl) (by kernel_rfl) (fun _ _ _ h=>h) hS ?hy6 (by rfl) ?rest6
    case hy6=>
     intro w0 h0;exact kC g13 [.int .i64 Hn,.slice (some ⟨g5,0,none⟩) Y.length Y.length] rfl h0.2 underlying53 i_
    try simp only[Act.put,ah,aj,ai]
    refine aw.takeW 2 (v:=?vv7) rfl (by kernel_rfl) (by kernel_rfl) (by kernel_rfl) (fun _ _ _ h=>h) ?hy7 (by rfl) ?rest7
    case hy7=>
     intro w0;go_simp;try with_reducible rfl
    try simp only[Act.put,ah,aj,ai]
    refine aO 3 ?_;intro K hK;have x2:=b7.cell 2 rfl;have x3:=b7.cell 3 rfl;have x4:=b7.cell 4 rfl;have x5:=b7.cell 5 rfl;have y2:=b7.frozen 2;have y3:=b7.frozen 3;have y4:=b7.frozen 4;have y5:=b7.frozen 5
    go_simp
    refine hK.out _ _ (fun _=>⟨((((hS.1.other (by show g11≠g7;omega) _).other (by show g11≠g7;omega) _).other (by show g11≠g7;omega) _).other (by show g11≠g7;omega) _),((((hS.2.other (by show g13≠g7;omega) _).other (by show g13≠g7;omega) _).other (by show g13≠g7;omega) _).other (by show g13≠g7;omega) _)⟩) ?_
    clear hK K x2 x3 x4 x5 y2 y3 y4 y5;try simp only[Act.put,ah,aj,ai]
    have O3:aB g7 wd ((((wd.setCell ⟨g7,2,none⟩ (.int .i64 L.length)).setCell ⟨g7,3,none⟩ (.int .i64 (v:Int))).setCell ⟨g7,4,none⟩ (.int .i64 ((L.length:Int)*(v:Int)))).setCell ⟨g7,5,none⟩ (.slice bo X.length dap)):=((((aB.refl g7 wd).set 2 _).set 3 _).set 4 _).set 5 _
    have q7:=(((b7.set 2 (.int .i64 L.length)).set 3 (.int .i64 (v:Int))).set 4 (.int .i64 ((L.length:Int)*(v:Int)))).set 5 (.slice bo X.length dap)
    generalize ((((wd.setCell ⟨g7,2,none⟩ (.int .i64 L.length)).setCell ⟨g7,3,none⟩ (.int .i64 (v:Int))).setCell ⟨g7,4,none⟩ (.int .i64 ((L.length:Int)*(v:Int)))).setCell ⟨g7,5,none⟩ (.slice bo X.length dap))=we at *
    refine aw.takeW 4 (v:=?vv8) rfl (by kernel_rfl) (by kernel_rfl) (by kernel_rfl) (fun _ _ _ h=>h) ?hy8 (by rfl) ?rest8
    case hy8=>
     intro w0;go_simp;try with_reducible rfl
    try simp only[Act.put,ah,aj,ai]
    refine aO 5 ?_;intro K hK;have x6:=q7.cell 6 rfl;have x7:=q7.cell 7 rfl;have y6:=q7.frozen 6;have y7:=q7.frozen 7;go_simp;refine hK.out _ _ (fun h=>absurd (by decide) h) ?_;clear hK K x6 x7 y6 y7
    try simp only[Act.put,ah,aj,ai]
    refine aw.done (by kernel_rfl) ?_ _;have O5:aB g7 wd ((we.setCell ⟨g7,6,none⟩ (.int .i64 Hn)).setCell ⟨g7,7,none⟩ (.slice (some ⟨g5,0,none⟩) Y.length Y.length)):=O3.trans (((aB.refl g7 we).set 6 _).set 7 _)
    have r7:=(q7.set 6 (.int .i64 Hn)).set 7 (.slice (some ⟨g5,0,none⟩) Y.length Y.length)
    generalize ((we.setCell ⟨g7,6,none⟩ (.int .i64 Hn)).setCell ⟨g7,7,none⟩ (.slice (some ⟨g5,0,none⟩) Y.length Y.length))=wf at *;replace b4:=O5.cel b4 (by omega)
    replace h5X:=O5.wd h5X (fun a _ ha=>by have:=h5n a ha;omega);replace hYd:=O5.wd hYd (fun a _ ha=>by cases ha;show g5≠g7;omega);replace hwr:=hwr.trans (O5.below (by omega));clear O3 O5 q7 b7 hS
    have r7b:aa wf g7 [.int .i64 n,.int .i64 l.length,.int .i64 L.length,.int .i64 (v:Int),.int .i64 ((L.length:Int)*(v:Int)),.slice bo X.length dap,.int .i64 Hn,.slice (some ⟨g5,0,none⟩) Y.length Y.length] 61:=r7
    go_wp2_with (first | refine gm g7 _ rfl r7b underlying61 fH ?_ | refine aU w.heap.size _ _ rfl rfl b4 rfl fH (by simp[Value.oneCell']) ?_);intro wg r4 O4
    have HZ:=Hid.mk9 (And.intro r4 (And.intro (O4.wd h5X (fun a _ ha=>by have:=h5n a ha;omega)) (And.intro (O4.wd hYd (fun a _ ha=>by cases ha;show g5≠w.heap.size;omega)) (hwr.trans (O4.below (Nat.le_refl _))))))
    clear r4 O4 b4 h5X hYd hwr r7 r7b;go_wp2
    (try simp only[Exit.inBlock,Exit.then]);refine bodyPost_ret (bF rfl w.heap.size _ rfl HZ.out.1 underlying61 fH) rfl ⟨bo,dap,some ⟨g5,0,none⟩,Y.length,?_,?_,HZ.out.2.2.2⟩
    .rw[EA.out.1,EA.out.2.1,EA.out.2.2.1,EA.out.2.2.2.1,EA.out.2.2.2.2.1,EA.out.2.2.2.2.2.1,EA.out.2.2.2.2.2.2.1,EA.out.2.2.2.2.2.2.2];rfl
    .rw[EA.out.2.2.2.2.2.1,EA.out.2.2.2.2.2.2.2];exact⟨HZ.out.2.1,h5l,HZ.out.2.2.1,Nat.le_refl _⟩
open Go.RowKit Go.Shelf Num Bit
attribute [local go_sem] Oper.semAt_some
theorem FH(n:Nat)(ao:Option Addr)(xs:List Nat)(cap:Nat)(w:World)(hx:Wd w ao xs)(fx:aA xs)(ck:az (n:Int) xs=true)(hn:n<=3000)(L:List Nat)(hL:L=plc (bitAt xs) n)(m v HN k:Nat)(hm:m=L.length)(hv:v=wdF n m)(hH:HN=hiN L n v)(hk0:k=(HN+63)/64):
  Calls prog 94 #[.agg #[.int .i64 n,.slice ao xs.length cap],.int .i64 m] w fun e w'=>∃g,e=.returned (.tuple #[.agg #[.int .i64 HN,.slice (some ⟨g,0,none⟩) k k],.int .i64 0])/\Own w' g (rowOf HN (isIn (hiP L v)))/\w.heap.size<=g/\Below w.heap.size w w':=by
 have RS:bi L n:=by rw[hL];exact iz _ _
 have mn:m<=n:=by rw[hm];exact RS.len
 have v20:v<=20:=by rw[hv];exact fP n m (by omega)
 have hE:n/2^v<=n:=Nat.div_le_self _ _;have HN1:HN<=6001:=by rw[hH];unfold hiN;omega
 have HR:Hid (bi (hiP L v) HN):=by show bi _ _;rw[hH];exact uX v RS
 have OC:Hid (∀w0,Calls prog 147 #[.agg #[.int .i64 n,.slice ao xs.length cap]] w0 fun e w'=>e=.returned (.func (.func 182) #[] #[.pointer (some ⟨w0.heap.size,0,none⟩)])/\w'=w0.alloc (.cells #[.int .i64 n,.slice ao xs.length cap] 53)):=fun w0=>pP n ao xs cap w0
 have WC:Hid (∀w0,Qx 150 #[.int .i64 n,.int .i64 m] w0 (.int .i64 (v:Nat))):=fun w0=>by rw[hv];exact ox n m (by omega) mn w0
 have SZ:Hid (∀w0,Qx 149 #[.int .i64 n,.int .i64 m] w0 (.int .i64 HN)):=fun w0=>by
  have:=vm n m (by omega) mn w0;rw[<-hv,show m+n/2^v+1=HN by rw[hH,hm];rfl]at this;exact this
 have NC:Hid (∀w0,Calls prog 95 #[.int .i64 HN] w0 fun e w'=>∃g,e=.returned (.tuple #[.agg #[.int .i64 HN,.slice (some ⟨g,0,none⟩) k k],.int .i64 0])/\w0.heap.size<=g/\g<w'.heap.size/\Own w' g (rowOf HN (fun _=>false))/\Below w0.heap.size w0 w'):=fun w0=>by
  have:=mc (HN:Int) k w0 (by omega) (by omega) (by rw[hk0];omega);rw[kF HN k hk0]at this;exact this
 have SC:Hid (∀w0 g f p,Own w0 g (rowOf HN f)->p<HN->Calls prog 135 #[.slice (some ⟨g,0,none⟩) k k,.int .i64 (p:Nat)] w0 fun e w'=>(∃v,e=.returned v)/\Own w' g (rowOf HN (fun j=>f j||p==j))/\bh g w0 w'):=fun w0 g f p hO hp=>by
  have:=vf HN f g k p w0 hO hp (by omega);rw[cM,<-hk0]at this;exact this
 have GO:Hid (∀(w0:World) (B:Nat) (K:Nat->Prop),Wd w0 ao xs->aa w0 B [.int .i64 n,.slice ao xs.length cap] 53->K B->(∀p,ao=some p->0<xs.length->K p.block)->jN prog 182 #[.pointer (some ⟨B,0,none⟩)] m (fun q=>#[.int .i64 q,.int .i64 (gt L q:Nat)]) K w0):=fun w0 B K h1 h2 h3 h4=>by
  have:=pQ B n ao xs cap K w0 h1 fx h2 h3 h4 ck;rw[<-hL,<-hm]at this;exact this
 have HM:=aX hm;clear hL hm hv hH hk0 hE;refine(callsIn_wide (n:=0)).1 (callsIn_of_wp_marks func94 rfl trivial ?_)
 simp only[ntmps94,List.size_toArray,List.length_cons,List.length_nil,Nat.reduceAdd,Nat.reduceSub,Array.replicate_succ,Array.replicate_zero,List.push_toArray,List.append_toArray,List.nil_append,List.cons_append]
 refine wpIn_wide.2 ?_;obtain⟨W1,hW1⟩:∃W1,W1=(w.alloc (.cells #[.int .i64 n,.slice ao xs.length cap] 53)).alloc (.cells #[.int .i64 0,.slice none 0 0] 53):=⟨_,rfl⟩
 have b1:Below w.heap.size w W1:=by rw[hW1];exact((below_alloc w _).alloc (by simp only[World.size_alloc];omega) _)
 have z1:W1.heap.size=w.heap.size+2:=by rw[hW1];simp
 have c0:aa W1 w.heap.size [.int .i64 n,.slice ao xs.length cap] 53:=by rw[hW1];exact(aa.new w _ _).alloc _
 have c1:aa W1 (w.heap.size+1) [.int .i64 0,.slice none 0 0] 53:=by rw[hW1];exact aa.new2 w _ _ _
 go_wp2_with fail;rw[<-hW1];clear hW1;refine mr (SZ.out _) fun ws hs=>?_;rw[hs];clear hs ws SZ;go_wp2_with fail;refine(NC.out _).mono ?_;rintro e w2 ⟨g,rfl,hg1,hg2,hO,hb⟩
 have zf:w.heap.size+2<=g:=by omega
 replace b1:=bg b1 hb;replace c0:=c0.kept hb;replace c1:=c1.kept hb;clear hb NC z1 hg1;obtain⟨g2,hgg⟩:∃g,g=w2.heap.size:=⟨_,rfl⟩
 obtain⟨W2,hW2⟩:∃W2,W2=w2.alloc (.cells #[.int .i64 HN,.slice (some ⟨g,0,none⟩) k k] 53):=⟨_,rfl⟩;have bA:Below w2.heap.size w2 W2:=by rw[hW2];exact below_alloc w2 _
 have z2:W2.heap.size=g2+1:=by rw[hW2,hgg];simp
 have c2:aa W2 g2 [.int .i64 HN,.slice (some ⟨g,0,none⟩) k k] 53:=by rw[hW2,hgg];exact aa.new w2 _ _
 have d0:aa (w2.alloc (.cells #[.int .i64 HN,.slice (some ⟨g,0,none⟩) k k] 53)) w.heap.size [.int .i64 n,.slice ao xs.length cap] 53:=c0.alloc _;have q0:=d0.cell 0 rfl;have HG:=aX hgg
 rw[<-hgg]at hg2;clear hgg;have HW2:=aX hW2;clear hW2;have HZF:=aX zf;clear zf;go_wp2_with fail;rw[<-HW2.out,<-HG.out];refine mr (WC.out _) fun ws hs=>?_;rw[hs];clear hs ws WC q0 d0
 obtain⟨W3,hW3⟩:∃W3,W3=W2.alloc (.cells #[.int .i64 (v:Nat)] 3):=⟨_,rfl⟩;have bB:Below W2.heap.size W2 W3:=by rw[hW3];exact below_alloc W2 _
 have z3:W3.heap.size=g2+2:=by rw[hW3];simp[z2]
 have c3:aa W3 (g2+1) [.int .i64 (v:Nat)] 3:=by rw[hW3,<-z2];exact aa.new W2 _ _
 have d0:aa (W2.alloc (.cells #[.int .i64 (v:Nat)] 3)) w.heap.size [.int .i64 n,.slice ao xs.length cap] 53:=(c0.kept bA).alloc _;have q0:=d0.cell 0 rfl;have q1:=d0.cell 1 rfl;have HW3:=aX hW3;clear hW3
 go_wp2_with fail;rw[<-HW3.out];refine(OC.out _).mono ?_;rintro e w' ⟨rfl,hw'⟩;have bC:Below W3.heap.size W3 w':=by rw[hw'];exact below_alloc W3 _
 have z4:w'.heap.size=g2+3:=by rw[hw'];simp[z3]
 have c4:aa w' (g2+2) [.int .i64 n,.slice ao xs.length cap] 53:=by rw[hw',<-z3];exact aa.new W3 _ _
 rw[z3];have zf:=HZF.out;have zg:w.heap.size<=g2:=by omega
 have bD:Below w2.heap.size w2 w':=bA.trans ((bB.mono (by rw[<-HG.out];omega)).trans (bC.mono (by rw[<-HG.out];omega)));have b4:Below w.heap.size w w':=b1.trans (bD.mono (by rw[<-HG.out];omega))
 replace c0:=c0.kept bD;replace c1:=c1.kept bD;replace c2:=(c2.kept bB).kept bC;replace c3:=c3.kept bC;replace hO:=hO.keep bD;clear b1 bA bB bC bD OC HW2 HW3 HG hw' d0 q0 q1 HZF z2 z3 W1 W2 W3 w2;go_wp2
 have G:=GO.out w' (g2+2) (fun b=>b≠g/\b≠w'.heap.size+1) (hx.keep b4) c4 (by omega) (fun p hp h0=>by have:=hx.blk hp h0;omega)
 have I0:Own w' g (rowOf HN (isIn (hiP (L.take 0) v))):=by
  rw[cU HN (isIn (hiP (L.take 0) v)) (fun _=>false) fun i _=>by simp[isIn,hiP]];exact hO
 clear hO GO
 refine iT (gf:=182) (lb:=#[.pointer (some ⟨g2+2,0,none⟩)]) (K:=fun b=>b≠g) rfl (enters_of func182 (by kernel_rfl) rfl) (fun _=>rfl) G (fun b hb=>by omega)
  (fun q Wc=>aE (fun b=>b≠g) w' Wc/\Own Wc g (rowOf HN (isIn (hiP (L.take q) v)))) (fun q Wc=>False) (fun q A B h hb=>⟨h.1.more hb (Nat.le_refl _),(hb.block g (by omega)).trans h.2⟩) (fun q A B h hb=>h) ⟨aE.refl _ _,I0⟩
  (fun q=>{ tmps:=#[.agg #[.int .i64 n,.slice ao xs.length cap],.int .i64 m,.pointer (some ⟨w.heap.size,0,none⟩),undef,.pointer (some ⟨w.heap.size+1,0,none⟩),.int .i64 0,.pointer (some ⟨g2,0,none⟩),.int .i64 0,.pointer (some ⟨g2+1,0,none⟩),.int .i64 (q:Nat),.int .i64 (gt L q:Nat),.tuple #[.agg #[.int .i64 HN,.slice (some ⟨g,0,none⟩) k k],.int .i64 0],.pointer (some ⟨w.heap.size,0,none⟩),.int .i64 n,.int .i64 m,.int .i64 HN,.tuple #[.agg #[.int .i64 HN,.slice (some ⟨g,0,none⟩) k k],.int .i64 0],.agg #[.int .i64 HN,.slice (some ⟨g,0,none⟩) k k],.int .i64 0,.int .i64 0,.bool false,undef,undef,.pointer (some ⟨w.heap.size,0,none⟩),.int .i64 n,.int .i64 m,.int .i64 (v:Nat),.agg #[.int .i64 n,.slice ao xs.length cap],.func (.func 182) #[] #[.pointer (some ⟨g2+2,0,none⟩)],.int .i64 (q:Nat),.int .i64 (gt L q:Nat),undef,undef,undef,undef,undef,undef,undef,undef,undef],defers:=[] }) ?assign ?body ?done ?stop
 case assign=>
  intro l1 q Wc K1 hK1;gi_wp2;exact hK1
 case body=>
  rintro l1 q Wc hq ⟨hk,hO⟩ hz;have cB:=hk.cel c2 (by omega);have cV:=hk.cel c3 (by omega);have qL:q<L.length:=by rw[<-HM.out];exact hq
  have hlt:=RS.1 q qL
  have hpl:gt L q/2^v+q<HN:=by
   have:=HR.out.1 q (by rw[kX];exact qL);rw[ld L v q qL]at this;exact this
  have S1:=aX (fun w0 h=>SC.out w0 g (isIn (hiP (L.take q) v)) (gt L q/2^v+q) h hpl)
  have RW:Hid (rowOf HN (fun j=>isIn (hiP (L.take q) v) j||gt L q/2^v+q==j)=rowOf HN (isIn (hiP (L.take (q+1)) v))):=by
   show rowOf _ _=_;refine cU _ _ _ fun j _=>?_;rw[uZ L v q qL,om]
  generalize gt L q=x at *;obtain⟨d,hd⟩:∃d,Hid (d=x/2^v):=⟨_,rfl⟩;have sd:(x:Int)/2^v=(d:Int):=by rw[hd.out,Int.natCast_ediv,Int.natCast_pow];rfl
  have S2:Hid (∀w0,Own w0 g (rowOf HN (isIn (hiP (L.take q) v)))->Calls prog 135 #[.slice (some ⟨g,0,none⟩) k k,.int .i64 (IntKind.i64.wrap ((d:Int)+(q:Int)))] w0 fun e w'=>(∃v,e=.returned v)/\Own w' g (rowOf HN (isIn (hiP (L.take (q+1)) v)))/\bh g w0 w'):=fun w0 h=>by
   have:=S1.out w0 h;rw[RW.out,<-hd.out]at this;rw[<-hd.out]at hpl;rw[show IntKind.i64.wrap ((d:Int)+(q:Int))=((d+q:Nat):Int)by rw[IntKind.wrap_i64];omega];exact this
  have v64:(v:Int)<64:=by omega
  clear G S1 RW SC;gi_wp2_with fail;refine pz [] (fun w0=>aa w0 g2 [.int .i64 HN,.slice (some ⟨g,0,none⟩) k k] 53/\aa w0 (g2+1) [.int .i64 (v:Nat)] 3) (by kernel_rfl) ?_
  have hS:(fun w0:World=>aa w0 g2 [.int .i64 HN,.slice (some ⟨g,0,none⟩) k k] 53/\aa w0 (g2+1) [.int .i64 (v:Nat)] 3) Wc.drew:=⟨cB,cV⟩
  refine a_.take 0 (v:=?vv1) (cE _) rfl (by kernel_rfl) (by kernel_rfl) (by kernel_rfl) (by kernel_rfl) (by kernel_rfl) (fun _ _ _ h=>h) hS ?hy1 (by rfl) ?rest1
  case hy1=>
   intro w0 h0;go_simp;try with_reducible rfl
  simp only[Act.put,ar,an,am,ah,aj,ai];refine a_.take 1 (v:=?vv2) (cE _) rfl (by kernel_rfl) (by kernel_rfl) (by kernel_rfl) (by kernel_rfl) (by kernel_rfl) (fun _ _ _ h=>h) hS ?hy2 (by rfl) ?rest2
  case hy2=>
   intro w0 h0;have:=h0.1.cell 1 rfl;go_simp;try with_reducible rfl
  simp only[Act.put,ar,an,am,ah,aj,ai];refine a_.take 2 (v:=?vv3) (cE _) rfl (by kernel_rfl) (by kernel_rfl) (by kernel_rfl) (by kernel_rfl) (by kernel_rfl) (fun _ _ _ h=>h) hS ?hy3 (by rfl) ?rest3
  case hy3=>
   intro w0 h0;go_simp;try with_reducible rfl
  simp only[Act.put,ar,an,am,ah,aj,ai];refine a_.take 3 (v:=?vv4) (cE _) rfl (by kernel_rfl) (by kernel_rfl) (by kernel_rfl) (by kernel_rfl) (by kernel_rfl) (fun _ _ _ h=>h) hS ?hy4 (by rfl) ?rest4
  case hy4=>
   intro w0 h0;have:=h0.2.cell 0 rfl;go_simp;try with_reducible rfl
  simp only[Act.put,ar,an,am,ah,aj,ai];refine a_.take 4 (v:=?vv5) (cE _) rfl (by kernel_rfl) (by kernel_rfl) (by kernel_rfl) (by kernel_rfl) (by kernel_rfl) (fun _ _ _ h=>h) hS ?hy5 (by rfl) ?rest5
  case hy5=>
   intro w0 h0;go_simp;try with_reducible rfl
  simp only[Act.put,ar,an,am,ah,aj,ai];refine a_.take 5 (v:=?vv6) (cE _) rfl (by kernel_rfl) (by kernel_rfl) (by kernel_rfl) (by kernel_rfl) (by kernel_rfl) (fun _ _ _ h=>h) hS ?hy6 (by rfl) ?rest6
  case hy6=>
   intro w0 h0;go_simp;try with_reducible rfl
  simp only[Act.put,ar,an,am,ah,aj,ai];refine a_.take 6 (v:=?vv7) (cE _) rfl (by kernel_rfl) (by kernel_rfl) (by kernel_rfl) (by kernel_rfl) (by kernel_rfl) (fun _ _ _ h=>h) hS ?hy7 (by rfl) ?rest7
  case hy7=>
   intro w0 h0;go_simp;try with_reducible rfl
  simp only[Act.put,ar,an,am,ah,aj,ai];refine a_.one 7 (cE _) (by kernel_rfl) rfl (fun _ h=>by cases h) (by rfl) ?_;intro K2 hK2;go_simp;refine⟨rfl,?_⟩
  refine(CallsIn.inRound l1 (callsIn_wide.2 (S2.out Wc.drew hO.drew'))).mono ?_;rintro e W3 ⟨⟨u,rfl⟩,hO3,hT⟩
  have kT:aE (fun b=>b≠g) Wc W3:=⟨hT.os,hT.tape,hT.output,Nat.le_of_eq hT.size.symm,fun b hb _=>hT.block b hb⟩;have HE:=aX (And.intro kT (And.intro (hk.trans kT) hO3))
  have hS3:aa W3 g2 [.int .i64 HN,.slice (some ⟨g,0,none⟩) k k] 53/\aa W3 (g2+1) [.int .i64 (v:Nat)] 3:=⟨kT.cel cB (by omega),kT.cel cV (by omega)⟩;clear kT hT hO3;refine hK2.out _ _ (fun _=>hS3) ?_
  clear hK2 K2;refine a_.done (by kernel_rfl) ?_ _;gi_wp2;exact HE.out
 case done=>
  rintro D Wc hD ⟨hk,hO⟩ hd;rw[HM.out,List.take_of_length_le (Nat.le_refl _)]at hO;have cR:=hk.cel c1 (by omega);have cB:=hk.cel c2 (by omega)
  have hb:=b4.trans (hk.below (B:=w.heap.size) (fun x h=>by omega) (by omega));have DN:D≠g/\D≠w.heap.size+1/\w.heap.size<=D:=⟨by omega,by omega,by omega⟩
  have gN:g≠w.heap.size+1/\w.heap.size<=g:=⟨by omega,by omega⟩;clear hk c0 c1 c2 c3 c4 G
  go_wp2_with (first | refine gm g2 _ rfl cB underlying53 ja ?_ | refine aU (w.heap.size+1) [.int .i64 0,.slice none 0 0] _ rfl rfl cR rfl ja (by simp[Value.oneCell']) ?_);intro w3 B3 O3
  have b5:=hb.trans (O3.below (Nat.le_succ _));have hO3:Own w3 g (rowOf HN (isIn (hiP L v))):=(O3.block g gN.1).trans hO;have hd3:w3.heap[D]?=some (.deferred (some [])):=(O3.block D DN.2.1).trans hd
  have HZ:=aX (And.intro B3 (And.intro hO3 (And.intro hd3 b5)));clear B3 O3 hO3 hd3 b5 hd hO cB cR;go_wp2;obtain⟨B3,hO3,hd3,b5⟩:=HZ.out
  have cR2:=B3.put (.deferred none) (show w.heap.size+1≠D from fun e=>DN.2.1 e.symm)
  have hO4:Own (w3.putObj D (.deferred none)) g (rowOf HN (isIn (hiP L v))):=(World.putObj_heap_other (fun e=>DN.1 e.symm)).trans hO3
  exact gj hd3 (bF rfl (w.heap.size+1) _ rfl cR2 underlying53 ja) ⟨g,rfl,hO4,gN.2,b5.trans (dX DN.2.2 _)⟩
 case stop=>
  rintro D q Wc hD hq h hd;exact h.elim
attribute [local go_sem] Oper.semAt_some
theorem Fu(m:Nat)(f:Nat->Nat)(i:Nat)(h:i<m):gt ((List.range m).map f) i=f i:=by
 unfold gt;rw[List.getD_eq_getElem?_getD,List.getElem?_map,List.getElem?_range h];rfl
def gR(L:List Nat)(v q:Nat):List Nat:=(List.range L.length).map fun j=>if j<q then gt L j%2^v else 0
theorem nZ(L:List Nat)(v q:Nat):(gR L v q).length=L.length:=by simp[gR]
theorem Dd(L:List Nat)(v:Nat):gR L v 0=List.replicate L.length 0:=by
 unfold gR;rw[List.eq_replicate_iff];refine⟨by simp,fun b hb=>?_⟩;rw[List.mem_map]at hb;obtain⟨j,_,rfl⟩:=hb;simp
theorem Df(L:List Nat)(v:Nat)(hv:0<v):gR L v L.length=loP L v:=by
 refine Bit.list_ext _ _ (by rw[nZ,iZ L v hv]) fun i hi=>?_;rw[nZ]at hi;rw[oz L v i hv hi];unfold gR;rw[Fu _ _ _ hi,if_pos hi]
theorem De(L:List Nat)(v q:Nat)(h:q<L.length):(gR L v q).set q (gt L q%2^v)=gR L v (q+1):=by
 refine List.ext_getElem? fun i=>?_;rw[List.getElem?_set,nZ];unfold gR;by_cases c:i<L.length
 .rw[List.getElem?_map,List.getElem?_map,List.getElem?_range c];by_cases d:q=i
  .subst d;simp[c]
  .rw[if_neg d];simp only[Option.map_some];congr 1;by_cases e:i<q
   .rw[if_pos e,if_pos (by omega)]
   .rw[if_neg e,if_neg (by omega)]
 .rw[if_neg (by omega),List.getElem?_eq_none (by simp;omega),List.getElem?_eq_none (by simp;omega)]
theorem Eh(n:Nat)(L:List Nat)(v:Nat)(hn:n<=3000)(hl:L.length<=n)(hv:v<=20):cg ((max v 1:Nat):Int) (loP L v)=0:=by
 unfold cg;rw[if_neg];have h1:=mp L v;have h2:(loP L v).length*max v 1<=3000*20:=Nat.mul_le_mul (by omega) (by omega);rintro(h | h | h | h)
 .omega
 .omega
 .rw[<-Int.natCast_mul]at h;omega
 .exact h fun j hj=>(uB _ _).2 (nX L v j)
theorem mB:(prog.info? 57).map (·.size)=some 4:=by kernel_rfl
theorem FE(n:Nat)(ao:Option Addr)(xs:List Nat)(cap:Nat)(w:World)(m:Nat)(hn:n<=3000)(mn:m<=n)(h0:wdF n m=0):
  Calls prog 93 #[.agg #[.int .i64 n,.slice ao xs.length cap],.int .i64 m] w fun e w'=>∃bo bc,e=.returned (.tuple #[.agg #[.int .i64 0,.int .i64 1,.int .i64 0,.slice bo 0 bc],.int .i64 0])/\Below w.heap.size w w':=by
 obtain⟨i6,hi6,za6,zb6,zc6⟩:=info_parts Tryz.info126
 have SZ:Hid (∀w0,Qx 146 #[.int .i64 n,.int .i64 m] w0 (.tuple #[.int .i64 0,.int .i64 1])):=fun w0=>by
  have:=qB n m (by omega) mn w0;unfold loN at this;rw[h0,if_pos rfl]at this;exact this
 have MC:Hid (∀w0 g,Calls prog 144 #[.int .i64 1,.slice (some ⟨g,0,none⟩) 0 0] w0 fun e w'=>∃bo bc,e=.returned (.tuple #[.agg #[.int .i64 0,.int .i64 1,.int .i64 0,.slice bo 0 bc],.int .i64 0])/\Below w0.heap.size w0 w'):=fun w0 g=>by
  refine(um 1 (some ⟨g,0,none⟩) [] 0 0 w0 (cm _ _) (fun i=>by unfold gt;simp) (by decide) (by decide)).mono ?_;rintro e w' ⟨g',rfl,_,_,hb⟩;exact⟨_,_,rfl,hb⟩
 clear h0;refine(callsIn_wide (n:=0)).1 (callsIn_of_wp_marks func93 rfl trivial ?_)
 simp only[ntmps93,List.size_toArray,List.length_cons,List.length_nil,Nat.reduceAdd,Nat.reduceSub,Array.replicate_succ,Array.replicate_zero,List.push_toArray,List.append_toArray,List.nil_append,List.cons_append]
 refine wpIn_wide.2 ?_;obtain⟨W1,hW1⟩:∃W1,W1=(w.alloc (.cells #[.int .i64 n,.slice ao xs.length cap] 53)).alloc (.cells #[.int .i64 0,.int .i64 0,.int .i64 0,.slice none 0 0] 57):=⟨_,rfl⟩
 have b1:Below w.heap.size w W1:=by rw[hW1];exact((below_alloc w _).alloc (by simp only[World.size_alloc];omega) _)
 have z1:W1.heap.size=w.heap.size+2:=by rw[hW1];simp
 have c1:aa W1 (w.heap.size+1) [.int .i64 0,.int .i64 0,.int .i64 0,.slice none 0 0] 57:=by rw[hW1];exact aa.new2 w _ _ _
 go_wp2_with fail;rw[<-hW1];clear hW1;refine mr (SZ.out _) fun ws hs=>?_;rw[hs];clear hs ws SZ;obtain⟨W2,hW2⟩:∃W2,W2=W1.alloc (.cells #[.int .i64 1] 3):=⟨_,rfl⟩
 have b2:Below W1.heap.size W1 W2:=by rw[hW2];exact below_alloc W1 _
 have z2:W2.heap.size=w.heap.size+3:=by rw[hW2];simp[z1]
 have c2:aa W2 (w.heap.size+2) [.int .i64 1] 3:=by rw[hW2,<-z1];exact aa.new W1 _ _
 go_wp2_with (at_make;rw[<-hW2];refine wpList_make_full _ rfl _ _ 51 rfl W2.heap.size 126 i6 (.int .u64 0) 1 underlying51 hi6 za6 zb6 .i64 .i64 _ _ 0 rfl rfl rfl rfl ?b2 ?b3 ?b4 ?_)
 case b2=>rw[zc6];omega
 case b3=>unfold maxLen;omega
 case b4=>exact Nat.le_refl _
 intro w3 hown hgr;have b3:Below W2.heap.size W2 w3:=by rw[hW2];exact(Below.refl _ _).grown hgr (Nat.le_refl _) (fun k h=>by cases h)
 have bb:Below w.heap.size w w3:=b1.trans ((b2.mono (by omega)).trans (b3.mono (by omega)));replace c1:=(c1.kept b2).kept b3;replace c2:=c2.kept b3;clear hown hgr b1 b2 b3 hW2
 have bA:=below_alloc w3 (.cells #[.slice (some ⟨w.heap.size+2+1,0,none⟩) 0 0] 51);have d2:=c2.kept bA;have d1:=c1.kept bA;have q0:=d2.cell 0 rfl;go_wp2_with fail;refine(MC.out _ _).mono ?_
 rintro e w4 ⟨bo,bc,rfl,hb⟩;have b5:=(bg bb bA).trans (hb.mono (Nat.le_trans bb.size bA.size));replace d1:=d1.kept hb;clear hb q0 d2 c1 c2 bA bb
 go_wp2_with (refine aU (w.heap.size+1) [.int .i64 0,.int .i64 0,.int .i64 0,.slice none 0 0] _ rfl rfl d1 rfl mB (by simp[Value.oneCell']) ?_);intro w5 B3 O3
 have HZ:=aX (And.intro B3 (b5.trans (O3.below (Nat.le_succ _))));clear B3 O3 b5 d1;go_wp2;exact⟨_,bF rfl (w.heap.size+1) _ rfl HZ.out.1 underlying57 mB,bo,bc,rfl,HZ.out.2⟩
theorem FD(n:Nat)(ao:Option Addr)(xs:List Nat)(cap:Nat)(w:World)(hx:Wd w ao xs)(fx:aA xs)(ck:az (n:Int) xs=true)(hn:n<=3000)(L:List Nat)(hL:L=plc (bitAt xs) n)(m v:Nat)(hm:m=L.length)(hv:v=wdF n m)(hv0:0<v):
  Calls prog 93 #[.agg #[.int .i64 n,.slice ao xs.length cap],.int .i64 m] w fun e w'=>∃g k,e=.returned (.tuple #[.agg #[.int .i64 m,.int .i64 v,.int .i64 ((m:Int)*(v:Int)),.slice (some ⟨g,0,none⟩) k k],.int .i64 0])/\k=(mkS (loP L v) v m).length/\Own w' g (mkS (loP L v) v m)/\Below w.heap.size w w':=by
 have RS:bi L n:=by rw[hL];exact iz _ _
 have mn:m<=n:=by rw[hm];exact RS.len
 have v20:v<=20:=by rw[hv];exact fP n m (by omega)
 have m0:0<m:=by
  refine Nat.pos_of_ne_zero fun c=>?_;rw[c]at hv;unfold wdF at hv;rw[if_pos rfl]at hv;omega
 have m0i:(0:Int)<(m:Int):=by omega
 obtain⟨i6,hi6,za6,zb6,zc6⟩:=info_parts Tryz.info126
 have OC:Hid (∀w0,Calls prog 147 #[.agg #[.int .i64 n,.slice ao xs.length cap]] w0 fun e w'=>e=.returned (.func (.func 182) #[] #[.pointer (some ⟨w0.heap.size,0,none⟩)])/\w'=w0.alloc (.cells #[.int .i64 n,.slice ao xs.length cap] 53)):=fun w0=>pP n ao xs cap w0
 have SZ:Hid (∀w0,Qx 146 #[.int .i64 n,.int .i64 m] w0 (.tuple #[.int .i64 m,.int .i64 v])):=fun w0=>by
  have:=qB n m (by omega) mn w0;unfold loN at this;rw[<-hv,if_neg (by omega),show max v 1=v by omega]at this;exact this
 have MK:Hid (∀w0,Qx 148 #[.int .i64 v] w0 (.int .u64 (maskI v))):=fun w0=>mg v w0
 have MC:Hid (∀w0 g,Own w0 g (loP L v)->Calls prog 144 #[.int .i64 v,.slice (some ⟨g,0,none⟩) m m] w0 fun e w'=>∃g k,e=.returned (.tuple #[.agg #[.int .i64 m,.int .i64 v,.int .i64 ((m:Int)*(v:Int)),.slice (some ⟨g,0,none⟩) k k],.int .i64 0])/\k=(mkS (loP L v) v m).length/\Own w' g (mkS (loP L v) v m)/\Below w0.heap.size w0 w'):=fun w0 g hO=>by
  have e1:=Eh n L v hn (by omega) v20;rw[show max v 1=v by omega]at e1;have e2:(loP L v).length=m:=by rw[iZ L v hv0,hm]
  have:=um v (some ⟨g,0,none⟩) (loP L v) m ((m*v+63)/64) w0 hO.wd (fun i=>Nat.lt_of_lt_of_le (nX L v i) (Nat.pow_le_pow_right (show 0<2 by decide) (show max v 1<=64 by omega))) e1 (by rw[e2])
  rw[e2]at this;refine this.mono ?_;rintro e w' ⟨g',rfl,_,h1,h2⟩;exact⟨g',_,rfl,by rw[iY,e2],h1,h2⟩
 have GO:Hid (∀(w0:World) (B:Nat) (K:Nat->Prop),Wd w0 ao xs->aa w0 B [.int .i64 n,.slice ao xs.length cap] 53->K B->(∀p,ao=some p->0<xs.length->K p.block)->jN prog 182 #[.pointer (some ⟨B,0,none⟩)] m (fun q=>#[.int .i64 q,.int .i64 (gt L q:Nat)]) K w0):=fun w0 B K h1 h2 h3 h4=>by
  have:=pQ B n ao xs cap K w0 h1 fx h2 h3 h4 ck;rw[<-hL,<-hm]at this;exact this
 have HM:=aX hm;clear hL hm hv;refine(callsIn_wide (n:=0)).1 (callsIn_of_wp_marks func93 rfl trivial ?_)
 simp only[ntmps93,List.size_toArray,List.length_cons,List.length_nil,Nat.reduceAdd,Nat.reduceSub,Array.replicate_succ,Array.replicate_zero,List.push_toArray,List.append_toArray,List.nil_append,List.cons_append]
 refine wpIn_wide.2 ?_;obtain⟨W1,hW1⟩:∃W1,W1=(w.alloc (.cells #[.int .i64 n,.slice ao xs.length cap] 53)).alloc (.cells #[.int .i64 0,.int .i64 0,.int .i64 0,.slice none 0 0] 57):=⟨_,rfl⟩
 have b1:Below w.heap.size w W1:=by rw[hW1];exact((below_alloc w _).alloc (by simp only[World.size_alloc];omega) _)
 have z1:W1.heap.size=w.heap.size+2:=by rw[hW1];simp
 have c0:aa W1 w.heap.size [.int .i64 n,.slice ao xs.length cap] 53:=by rw[hW1];exact(aa.new w _ _).alloc _
 have c1:aa W1 (w.heap.size+1) [.int .i64 0,.int .i64 0,.int .i64 0,.slice none 0 0] 57:=by rw[hW1];exact aa.new2 w _ _ _
 go_wp2_with fail;rw[<-hW1];clear hW1;refine mr (SZ.out _) fun ws hs=>?_;rw[hs];clear hs ws SZ;obtain⟨W2,hW2⟩:∃W2,W2=W1.alloc (.cells #[.int .i64 v] 3):=⟨_,rfl⟩
 have b2:Below W1.heap.size W1 W2:=by rw[hW2];exact below_alloc W1 _
 have z2:W2.heap.size=w.heap.size+3:=by rw[hW2];simp[z1]
 have c2:aa W2 (w.heap.size+2) [.int .i64 v] 3:=by rw[hW2,<-z1];exact aa.new W1 _ _
 go_wp2_with (at_make;rw[<-hW2];refine wpList_make_full _ rfl _ _ 51 rfl W2.heap.size 126 i6 (.int .u64 0) 1 underlying51 hi6 za6 zb6 .i64 .i64 _ _ m rfl rfl rfl rfl ?b2 ?b3 ?b4 ?_)
 case b2=>rw[zc6];omega
 case b3=>unfold maxLen;omega
 case b4=>exact Nat.le_refl _
 intro w3 hown hgr;have b3:Below W2.heap.size W2 w3:=by rw[hW2];exact(Below.refl _ _).grown hgr (Nat.le_refl _) (fun k h=>by cases h)
 have bb:Below w.heap.size w w3:=b1.trans ((b2.mono (by omega)).trans (b3.mono (by omega)));have hO:Own w3 (w.heap.size+3) (List.replicate m 0):=own_made hown;have z3:w.heap.size+4<=w3.heap.size:=hO.lt
 replace c0:=(c0.kept b2).kept b3;replace c1:=(c1.kept b2).kept b3;replace c2:=c2.kept b3;obtain⟨g4,zh⟩:∃g,w3.heap.size=g:=⟨_,rfl⟩;rw[zh]at z3;clear hown hgr b1 b2 b3 hW2
 obtain⟨W4,hW4⟩:∃W4,W4=w3.alloc (.cells #[.slice (some ⟨w.heap.size+2+1,0,none⟩) m m] 51):=⟨_,rfl⟩;have bA:Below w3.heap.size w3 W4:=by rw[hW4];exact below_alloc w3 _
 have z4:W4.heap.size=g4+1:=by rw[hW4];simp[zh]
 have c4:aa W4 g4 [.slice (some ⟨w.heap.size+3,0,none⟩) m m] 51:=by rw[hW4,<-zh];exact aa.new w3 _ _
 have d0:aa (w3.alloc (.cells #[.slice (some ⟨w.heap.size+2+1,0,none⟩) m m] 51)) w.heap.size [.int .i64 n,.slice ao xs.length cap] 53:=c0.alloc _;have q0:=d0.cell 0 rfl;have q1:=d0.cell 1 rfl
 have HW4:=aX hW4;have HZH:=aX zh;clear hW4 zh;go_wp2_with fail;rw[<-HW4.out,HZH.out];refine(OC.out _).mono ?_;rintro e w' ⟨rfl,hw'⟩;have zh:=HZH.out
 have bC:Below W4.heap.size W4 w':=by rw[hw'];exact below_alloc W4 _
 have z5:w'.heap.size=g4+2:=by rw[hw'];simp[z4]
 have c5:aa w' (g4+1) [.int .i64 n,.slice ao xs.length cap] 53:=by rw[hw',<-z4];exact aa.new W4 _ _
 rw[z4];have bD:Below w3.heap.size w3 w':=bA.trans (bC.mono (by omega));have b4:Below w.heap.size w w':=bb.trans (bD.mono (by omega));replace c0:=c0.kept bD;replace c1:=c1.kept bD;replace c2:=c2.kept bD
 replace c4:=c4.kept bC;replace hO:=hO.keep bD;clear bA bb bC bD OC HW4 HZH hw' d0 q0 q1 z1 z2 zh z4;go_wp2
 have G:=GO.out w' (g4+1) (fun b=>b≠w.heap.size+3/\b≠w'.heap.size+1) (hx.keep b4) c5 (by omega) (fun p hp h0=>by have:=hx.blk hp h0;omega)
 have I0:Own w' (w.heap.size+3) (gR L v 0):=by
  rw[Dd,<-HM.out];exact hO
 clear hO GO
 refine iT (gf:=182) (lb:=#[.pointer (some ⟨g4+1,0,none⟩)]) (K:=fun b=>b≠w.heap.size+3) rfl (enters_of func182 (by kernel_rfl) rfl) (fun _=>rfl) G (fun b hb=>by omega)
  (fun q Wc=>aE (fun b=>b≠w.heap.size+3) w' Wc/\Own Wc (w.heap.size+3) (gR L v q)) (fun q Wc=>False) (fun q A B h hb=>⟨h.1.more hb (Nat.le_refl _),(hb.block (w.heap.size+3) (by omega)).trans h.2⟩) (fun q A B h hb=>h) ⟨aE.refl _ _,I0⟩
  (fun q=>{ tmps:=#[.agg #[.int .i64 n,.slice ao xs.length cap],.int .i64 m,.pointer (some ⟨w.heap.size,0,none⟩),undef,.pointer (some ⟨w.heap.size+1,0,none⟩),.int .i64 0,.int .i64 m,.pointer (some ⟨w.heap.size+2,0,none⟩),.pointer (some ⟨g4,0,none⟩),.int .i64 (q:Nat),.int .i64 (gt L q:Nat),.tuple #[.int .i64 m,.int .i64 v],.pointer (some ⟨w.heap.size,0,none⟩),.int .i64 n,.int .i64 m,.tuple #[.int .i64 m,.int .i64 v],.int .i64 m,.int .i64 v,.int .i64 m,.slice (some ⟨w.heap.size+3,0,none⟩) m m,.int .i64 m,.bool true,.agg #[.int .i64 n,.slice ao xs.length cap],.func (.func 182) #[] #[.pointer (some ⟨g4+1,0,none⟩)],.int .i64 (q:Nat),.int .i64 (gt L q:Nat),undef,undef,undef,undef,undef,undef,undef,undef,undef,undef,undef,undef,undef],defers:=[] }) ?assign ?body ?done ?stop
 case assign=>
  intro l1 q Wc K1 hK1;gi_wp2;exact hK1
 case body=>
  rintro l1 q Wc hq ⟨hk,hO⟩ hz;have cS:=hk.cel c4 (by omega);have cV:=hk.cel c2 (by omega);have qL:q<L.length:=by rw[<-HM.out];exact hq
  have hlt:=RS.1 q qL;have NS:=aX (De L v q qL);have r0:=hO.cell q (by rw[nZ];exact qL);have r1:=hO.frozen q;have hO2:=aX hO;clear hO;generalize gt L q=x at *
  have hq2:(q:Int)<(m:Int):=by omega
  have xu:IntKind.u64.wrap (x:Int)=(x:Int):=by rw[IntKind.wrap_u64];omega
  have AM:bits BinOp.and IntKind.u64 (x:Int) (maskI (v:Int))=((x%2^v:Nat):Int):=by
   rw[mQ _ _ (by omega) (by omega),Int.toNat_natCast,Int.toNat_natCast,show min v 64=v by omega]
  generalize x%2^v=y at *;generalize maskI (v:Int)=mk at *;clear G;gi_wp2_with fail
  refine pz [8] (fun w0=>aa w0 g4 [.slice (some ⟨w.heap.size+3,0,none⟩) m m] 51/\aa w0 (w.heap.size+2) [.int .i64 v] 3) (by kernel_rfl) ?_
  have hS:(fun w0:World=>aa w0 g4 [.slice (some ⟨w.heap.size+3,0,none⟩) m m] 51/\aa w0 (w.heap.size+2) [.int .i64 v] 3) Wc.drew:=⟨cS,cV⟩
  refine a_.take 0 (v:=?vv1) (cE _) rfl (by kernel_rfl) (by kernel_rfl) (by kernel_rfl) (by kernel_rfl) (by kernel_rfl) (fun _ _ _ h=>h) hS ?hy1 (by rfl) ?rest1
  case hy1=>
   intro w0 h0;have:=h0.1.cell 0 rfl;go_simp;try with_reducible rfl
  simp only[Act.put,ar,an,am,ah,aj,ai];refine a_.take 1 (v:=?vv2) (cE _) rfl (by kernel_rfl) (by kernel_rfl) (by kernel_rfl) (by kernel_rfl) (by kernel_rfl) (fun _ _ _ h=>h) hS ?hy2 (by rfl) ?rest2
  case hy2=>
   intro w0 h0;go_simp;try with_reducible rfl
  simp only[Act.put,ar,an,am,ah,aj,ai];refine a_.take 2 (v:=?vv3) (cE _) rfl (by kernel_rfl) (by kernel_rfl) (by kernel_rfl) (by kernel_rfl) (by kernel_rfl) (fun _ _ _ h=>h) hS ?hy3 (by rfl) ?rest3
  case hy3=>
   intro w0 h0;go_simp;try with_reducible rfl
  simp only[Act.put,ar,an,am,ah,aj,ai];refine a_.take 3 (v:=?vv4) (cE _) rfl (by kernel_rfl) (by kernel_rfl) (by kernel_rfl) (by kernel_rfl) (by kernel_rfl) (fun _ _ _ h=>h) hS ?hy4 (by rfl) ?rest4
  case hy4=>
   intro w0 h0;go_simp;try with_reducible rfl
  simp only[Act.put,ar,an,am,ah,aj,ai];refine a_.take 4 (v:=?vv5) (cE _) rfl (by kernel_rfl) (by kernel_rfl) (by kernel_rfl) (by kernel_rfl) (by kernel_rfl) (fun _ _ _ h=>h) hS ?hy5 (by rfl) ?rest5
  case hy5=>
   intro w0 h0;have:=h0.2.cell 0 rfl;go_simp;try with_reducible rfl
  simp only[Act.put,ar,an,am,ah,aj,ai];refine a_.one 5 (cE _) (by kernel_rfl) rfl (fun _ h=>by cases h) (by rfl) ?_;intro K2 hK2;go_simp;refine⟨rfl,?_⟩
  refine(CallsIn.inRound l1 (callsIn_wide.2 (MK.out _))).mono ?_;rintro e W3 ⟨rfl,h3⟩;rw[h3];clear h3 W3;refine hK2.out _ _ (fun _=>hS) ?_;clear hK2 K2;try simp only[Act.put,ar,an,am,ah,aj,ai]
  refine a_.take 6 (v:=?vv51) (cE _) rfl (by kernel_rfl) (by kernel_rfl) (by kernel_rfl) (by kernel_rfl) (by kernel_rfl) (fun _ _ _ h=>h) hS ?hy51 (by rfl) ?rest51
  case hy51=>
   intro w0 h0;go_simp;try with_reducible rfl
  simp only[Act.put,ar,an,am,ah,aj,ai];refine a_.take 7 (v:=?vv52) (cE _) rfl (by kernel_rfl) (by kernel_rfl) (by kernel_rfl) (by kernel_rfl) (by kernel_rfl) (fun _ _ _ h=>h) hS ?hy52 (by rfl) ?rest52
  case hy52=>
   intro w0 h0;go_simp;try with_reducible rfl
  simp only[Act.put,ar,an,am,ah,aj,ai];refine a_.one 8 (cE _) (by kernel_rfl) rfl (fun _ h=>by cases h) (by rfl) ?_;intro K2 hK2;go_simp
  have kT:aE (fun b=>b≠w.heap.size+3) Wc (Wc.setCell ⟨w.heap.size+3,q,none⟩ (.int .u64 y)).drew:=by
   have h:=(aE.refl (fun b=>b≠w.heap.size+3) Wc).setCell (p:=⟨w.heap.size+3,q,none⟩) (fun h=>h rfl) (.int .u64 y);exact⟨h.os,h.tape,h.output,h.size,h.same⟩
  have hO3:Own (Wc.setCell ⟨w.heap.size+3,q,none⟩ (.int .u64 y)).drew (w.heap.size+3) (gR L v (q+1)):=by
   rw[<-NS.out];exact(hO2.out.set q y).drew'
  have HE:=aX (And.intro kT (And.intro (hk.trans kT) hO3));clear kT hO3;refine hK2.out _ _ (fun h=>absurd (by decide) h) ?_;clear hK2 K2;refine a_.done (by kernel_rfl) ?_ _;gi_wp2;exact HE.out
 case done=>
  rintro D Wc hD ⟨hk,hO⟩ hd;rw[HM.out,Df L v hv0]at hO;have cR:=hk.cel c1 (by omega);have cS:=hk.cel c4 (by omega);have cV:=hk.cel c2 (by omega)
  have hb:=b4.trans (hk.below (B:=w.heap.size) (fun x h=>by omega) (by omega));have DN:D≠w.heap.size+1/\w.heap.size<=D:=⟨by omega,by omega⟩;have gN:w.heap.size+1<Wc.heap.size:=cR.lt
  have M1:=aX (MC.out Wc (w.heap.size+3) hO);have q0:=cV.cell 0 rfl;have q1:=cS.cell 0 rfl;clear hk c0 c1 c2 c4 c5 G hO MC;go_wp2_with fail;refine M1.out.mono ?_;rintro e w4 ⟨g,k,rfl,hk2,hO4,hb4⟩
  replace cR:=cR.kept hb4;have hd4:w4.heap[D]?=some (.deferred (some [])):=(hb4.block D (Array.getElem?_eq_some_iff.1 hd).1).trans hd
  have hgN:g≠w.heap.size+1:=fun e=>by
   rw[e]at hO4;have h1:w4.heap[w.heap.size+1]?=_:=hO4;rw[show w4.heap[w.heap.size+1]?=_ from cR]at h1;simp only[Option.some.injEq,Obj.cells.injEq]at h1;exact absurd h1.2.1 (by decide)
  have hgD:g≠D:=fun e=>by
   rw[e]at hO4;have h1:w4.heap[D]?=_:=hO4;rw[hd4]at h1;cases h1
  have b5:=bg hb hb4;clear hb4 q0 q1 cS cV hd;go_wp2_with (refine aU (w.heap.size+1) [.int .i64 0,.int .i64 0,.int .i64 0,.slice none 0 0] _ rfl rfl cR rfl mB (by simp[Value.oneCell']) ?_)
  intro w5 B3 O3;have b6:=b5.trans (O3.below (Nat.le_succ _));have hO5:Own w5 g (mkS (loP L v) v m):=(O3.block g hgN).trans hO4;have hd5:w5.heap[D]?=some (.deferred (some [])):=(O3.block D DN.1).trans hd4
  have HZ:=aX (And.intro B3 (And.intro hO5 (And.intro hd5 (And.intro b6 hk2))));clear B3 O3 hO5 hd5 b5 b6 hd4 hO4 cR hk2;go_wp2;obtain⟨B3,hO5,hd5,b6,hk2⟩:=HZ.out
  have cR2:=B3.put (.deferred none) (show w.heap.size+1≠D from fun e=>DN.1 e.symm);have hO6:Own (w5.putObj D (.deferred none)) g (mkS (loP L v) v m):=(World.putObj_heap_other hgD).trans hO5
  exact gj hd5 (bF rfl (w.heap.size+1) _ rfl cR2 underlying57 mB) ⟨g,_,rfl,rfl,hO6,b6.trans (dX DN.2 _)⟩
 case stop=>
  rintro D q Wc hD hq h hd;exact h.elim
end Go.Proofs.YtleegaihbgbcjabGreatDoor
namespace Go.Proofs.YtleegaihbgbcjabGreatDoor
open Go.RowKit Num Bit
theorem Iq(N:Int)(ao:Option Addr)(xs:List Nat)(cap:Nat)(n:Int)(w:World)(hx:Wd w ao xs)(hg:aA xs)(hcap:xs.length<=cap)(hnN:n<=N):
  Qq 92 #[.agg #[.int .i64 N,.slice ao xs.length cap],.int .i64 n] w (.int .i64 (onesI N xs n)):=by
 have K:∀o,Wd (w.alloc o) ao xs:=fun o=>hx.keep (below_alloc w o);have hM:min n N=n:=by omega
 cases hk:az N xs with
 | false=>
  have R:Hid (0=onesI N xs n):=by unfold onesI Hid;rw[hk];rfl
  clear hM;go_enter func92,ntmps92;go_wp2_with (go_at_call 83;refine mr (cF _ _ _ _ _ (K _)) fun w' hb=>?_;obtain⟨c0,c1,hz,hw⟩:=cu hb;clear hb);go_ret
  exact⟨dc R.out,by assumption⟩
 | true=>
  obtain⟨hc0,hc1,hc2,_⟩:=bn N xs hk;by_cases hm:n<=0
  .have R:Hid (0=onesI N xs n):=by unfold onesI Hid;rw[hk,hM,show(n).toNat=0 by omega];rfl
   clear hM;go_enter func92,ntmps92;go_wp2_with (go_at_call 83;refine mr (cF _ _ _ _ _ (K _)) fun w' hb=>?_;obtain⟨c0,c1,hz,hw⟩:=cu hb;clear hb);go_ret
   exact⟨dc R.out,by assumption⟩
  .obtain⟨m,rfl⟩:=Int.eq_ofNat_of_zero_le (show 0<=n by omega);obtain⟨b,off,rfl,hb,hc⟩:=hx (by omega);have R:Hid (((cntB xs m:Nat):Int)=onesI N xs (m:Int)):=by unfold onesI Hid;rw[hk,hM];rfl
   have HC:Hid (∀i,i<xs.length->w.cell? ⟨b,off+i,none⟩=some (.int .u64 (gt xs i))):=hc;have hl1:m/64<=xs.length:=by omega
   have hm0:decide (m=0)=false:=by simp;omega
   have hm1:(m==0)=false:=by simp;omega
   have hl2:m/64<=cap:=by omega
   have hl3:m<=1048576:=by omega
   have HL:Hid (m%64=0\/m/64<xs.length):=by unfold Hid;omega
   have hl5:(m:Int)/64<=(cap:Int):=by omega
   clear hM hc hc2;go_enter func92,ntmps92;go_wp2_with (go_at_call 83;refine mr (cF _ _ _ _ _ (K _)) fun w' hb=>?_;obtain⟨c0,c1,hz,hw⟩:=cu hb;clear hb)
   go_loop [5,26] (fun c i=>∃k t:Nat,k<=m/64/\t<=64*k/\i=.int .i64 k/\c=.int .i64 t/\Hid (t=cntB xs (64*k))) (fun _ i=>m/64-(intOf i).toNat)
   case atStart=>exact⟨0,0,by omega,by omega,rfl,rfl,rfl⟩
   case round=>
    obtain⟨k,t,hk1,ht,rfl,rfl,H⟩:=hrel;by_cases hlt:k<m/64
    .have hck:=(hw.cell (p:=⟨b,off+k,none⟩) (by assumption)).trans (HC.out k (by omega));have hf:=hg k;have hp:=tg (gt xs k)
     go_wp2_with (go_at_call 138;refine(nB _ ?_ ?_ _).mono ?_;exact Int.natCast_nonneg _;exact Int.ofNat_lt.2 hf;rintro e w' ⟨rfl,rfl⟩);go_round
     case rel=>
      refine⟨k+1,t+cnt (gt xs k) 64,by omega,?_,by go_num,?_,?_⟩
      .have:=dy (gt xs k) 64;omega
      .unfold e_;rw[Int.toNat_natCast];go_num
      .have e:=j_ xs k 64 (by omega);rw[show 64*(k+1)=64*k+64 by omega,e,<-H.out];rfl
     case measure=>simp only[intOf];omega
    .have hkm:k=m/64:=by omega
     have HT:Hid (t=cntB xs (64*(m/64))):=by rw[<-hkm];exact H.out
     clear H;by_cases hz0:m%64=0
     .have R2:Hid ((t:Int)=onesI N xs (m:Int)):=by
       unfold Hid;rw[<-R.out,HT.out,show 64*(m/64)=m by omega]
      have hz1:¬0<(m:Int)%64:=by omega
      clear hkm;go_wp2;go_ret;exact⟨dc R2.out,by assumption⟩
     .have hz1:0<(m:Int)%64:=by omega
      have hl6:m/64<xs.length:=by have:=HL.out;omega
      have hl7:(m:Int)/64<(xs.length:Int):=by omega
      have hck:=(hw.cell (p:=⟨b,off+m/64,none⟩) (by assumption)).trans (HC.out (m/64) hl6);have hf:=hg (m/64);have hp:=pD (gt xs (m/64)) ((m:Int)%64)
      have R2:Hid ((t:Int)+dt (gt xs (m/64)) ((m:Int)%64)=onesI N xs (m:Int)):=by
       unfold Hid;rw[<-R.out,HT.out];have e:=j_ xs (m/64) (m%64) (by omega);rw[show 64*(m/64)+m%64=m by omega]at e;rw[e];unfold dt
       rw[Int.toNat_natCast,show min ((m:Int)%64).toNat 64=m%64 by omega];omega
      clear hkm;go_wp2_with (go_at_call 145;refine(nr _ _ ?_ ?_ _).mono ?_;exact Int.natCast_nonneg _;exact Int.ofNat_lt.2 hf;rintro e w' ⟨rfl,rfl⟩);go_ret;exact⟨dc R2.out,by assumption⟩
theorem Ir(N:Int)(ao:Option Addr)(xs:List Nat)(cap:Nat)(n:Int)(w:World)(hx:Wd w ao xs)(hg:aA xs)(hcap:xs.length<=cap)(hnN:N<n):
  Qq 92 #[.agg #[.int .i64 N,.slice ao xs.length cap],.int .i64 n] w (.int .i64 (onesI N xs n)):=by
 have K:∀o,Wd (w.alloc o) ao xs:=fun o=>hx.keep (below_alloc w o);have hM:min n N=N:=by omega
 cases hk:az N xs with
 | false=>
  have R:Hid (0=onesI N xs n):=by unfold onesI Hid;rw[hk];rfl
  clear hM;go_enter func92,ntmps92;go_wp2_with (go_at_call 83;refine mr (cF _ _ _ _ _ (K _)) fun w' hb=>?_;obtain⟨c0,c1,hz,hw⟩:=cu hb;clear hb);go_ret
  exact⟨dc R.out,by assumption⟩
 | true=>
  obtain⟨hc0,hc1,hc2,_⟩:=bn N xs hk;by_cases hm:N<=0
  .have R:Hid (0=onesI N xs n):=by unfold onesI Hid;rw[hk,hM,show(N).toNat=0 by omega];rfl
   clear hM;go_enter func92,ntmps92;go_wp2_with (go_at_call 83;refine mr (cF _ _ _ _ _ (K _)) fun w' hb=>?_;obtain⟨c0,c1,hz,hw⟩:=cu hb;clear hb);go_ret
   exact⟨dc R.out,by assumption⟩
  .obtain⟨m,rfl⟩:=Int.eq_ofNat_of_zero_le (show 0<=N by omega);obtain⟨b,off,rfl,hb,hc⟩:=hx (by omega);have R:Hid (((cntB xs m:Nat):Int)=onesI (m:Int) xs n):=by unfold onesI Hid;rw[hk,hM];rfl
   have HC:Hid (∀i,i<xs.length->w.cell? ⟨b,off+i,none⟩=some (.int .u64 (gt xs i))):=hc;have hl1:m/64<=xs.length:=by omega
   have hm0:decide (m=0)=false:=by simp;omega
   have hm1:(m==0)=false:=by simp;omega
   have hl2:m/64<=cap:=by omega
   have hl3:m<=1048576:=by omega
   have HL:Hid (m%64=0\/m/64<xs.length):=by unfold Hid;omega
   have hl5:(m:Int)/64<=(cap:Int):=by omega
   clear hM hc hc2;go_enter func92,ntmps92;go_wp2_with (go_at_call 83;refine mr (cF _ _ _ _ _ (K _)) fun w' hb=>?_;obtain⟨c0,c1,hz,hw⟩:=cu hb;clear hb)
   go_loop [5,26] (fun c i=>∃k t:Nat,k<=m/64/\t<=64*k/\i=.int .i64 k/\c=.int .i64 t/\Hid (t=cntB xs (64*k))) (fun _ i=>m/64-(intOf i).toNat)
   case atStart=>exact⟨0,0,by omega,by omega,rfl,rfl,rfl⟩
   case round=>
    obtain⟨k,t,hk1,ht,rfl,rfl,H⟩:=hrel;by_cases hlt:k<m/64
    .have hck:=(hw.cell (p:=⟨b,off+k,none⟩) (by assumption)).trans (HC.out k (by omega));have hf:=hg k;have hp:=tg (gt xs k)
     go_wp2_with (go_at_call 138;refine(nB _ ?_ ?_ _).mono ?_;exact Int.natCast_nonneg _;exact Int.ofNat_lt.2 hf;rintro e w' ⟨rfl,rfl⟩);go_round
     case rel=>
      refine⟨k+1,t+cnt (gt xs k) 64,by omega,?_,by go_num,?_,?_⟩
      .have:=dy (gt xs k) 64;omega
      .unfold e_;rw[Int.toNat_natCast];go_num
      .have e:=j_ xs k 64 (by omega);rw[show 64*(k+1)=64*k+64 by omega,e,<-H.out];rfl
     case measure=>simp only[intOf];omega
    .have hkm:k=m/64:=by omega
     have HT:Hid (t=cntB xs (64*(m/64))):=by rw[<-hkm];exact H.out
     clear H;by_cases hz0:m%64=0
     .have R2:Hid ((t:Int)=onesI (m:Int) xs n):=by
       unfold Hid;rw[<-R.out,HT.out,show 64*(m/64)=m by omega]
      have hz1:¬0<(m:Int)%64:=by omega
      clear hkm;go_wp2;go_ret;exact⟨dc R2.out,by assumption⟩
     .have hz1:0<(m:Int)%64:=by omega
      have hl6:m/64<xs.length:=by have:=HL.out;omega
      have hl7:(m:Int)/64<(xs.length:Int):=by omega
      have hck:=(hw.cell (p:=⟨b,off+m/64,none⟩) (by assumption)).trans (HC.out (m/64) hl6);have hf:=hg (m/64);have hp:=pD (gt xs (m/64)) ((m:Int)%64)
      have R2:Hid ((t:Int)+dt (gt xs (m/64)) ((m:Int)%64)=onesI (m:Int) xs n):=by
       unfold Hid;rw[<-R.out,HT.out];have e:=j_ xs (m/64) (m%64) (by omega);rw[show 64*(m/64)+m%64=m by omega]at e;rw[e];unfold dt
       rw[Int.toNat_natCast,show min ((m:Int)%64).toNat 64=m%64 by omega];omega
      clear hkm;go_wp2_with (go_at_call 145;refine(nr _ _ ?_ ?_ _).mono ?_;exact Int.natCast_nonneg _;exact Int.ofNat_lt.2 hf;rintro e w' ⟨rfl,rfl⟩);go_ret;exact⟨dc R2.out,by assumption⟩
theorem wn(N:Int)(ao:Option Addr)(xs:List Nat)(cap:Nat)(n:Int)(w:World)(hx:Wd w ao xs)(hg:aA xs)(hcap:xs.length<=cap):
  Qq 92 #[.agg #[.int .i64 N,.slice ao xs.length cap],.int .i64 n] w (.int .i64 (onesI N xs n)):=by
 by_cases h:n<=N
 .exact Iq N ao xs cap n w hx hg hcap h
 .exact Ir N ao xs cap n w hx hg hcap (by omega)
theorem FI(N M k V LM H:Int)(ao:Option Addr)(xs:List Nat)(cap:Nat)(qo:Option Addr)(ys:List Nat)(dap:Nat)(w:World)(hx:Wd w ao xs)(fx:aA xs)(hy:Wd w qo ys)(fy:aA ys)(xl:xs.length<=cap)(yl:ys.length<=dap)(h:¬((0<=M/\M<=N/\N<=1048576)/\aQ k V LM xs=true/\az H ys=true)):
  Qq 159 #[.agg #[.int .i64 N,.int .i64 M,.int .i64 k,.int .i64 V,.int .i64 LM,.slice ao xs.length cap,.int .i64 H,.slice qo ys.length dap]] w (.bool false):=by
 have C1:Hid (Qz w 184 #[.agg #[.int .i64 k,.int .i64 V,.int .i64 LM,.slice ao xs.length cap]] (.bool (aQ k V LM xs))):=fun w0 hb=>qw k V LM ao xs cap w0 (hx.keep hb)
 have C2:Hid (Qz w 83 #[.agg #[.int .i64 H,.slice qo ys.length dap]] (.bool (az H ys))):=fun w0 hb=>cF H qo ys dap w0 (hy.keep hb)
 obtain⟨W,hW⟩:∃W,W=w.alloc (.cells #[.int .i64 N,.int .i64 M,.int .i64 k,.int .i64 V,.int .i64 LM,.slice ao xs.length cap,.int .i64 H,.slice qo ys.length dap] 61):=⟨_,rfl⟩;have bW:=aY hW;have B1:=bj hW
 clear hx hy fx fy;by_cases m0:M<0
 .clear C1 C2 h;go_enter func159,ntmps159;go_wp2;go_ret;rw[<-hW];exact⟨rfl,bW⟩
 by_cases m1:N<M
 .clear C1 C2 h;go_enter func159,ntmps159;go_wp2;go_ret;rw[<-hW];exact⟨rfl,bW⟩
 by_cases n1:1048576<N
 .clear C1 C2 h;go_enter func159,ntmps159;go_wp2;go_ret;rw[<-hW];exact⟨rfl,bW⟩
 cases hk:aQ k V LM xs with
 | false=>
  rw[hk]at C1;clear C2 h hk;go_enter func159,ntmps159;go_wp2_with fail;rw[<-hW];refine mr (C1.out _ bW) fun w1 hb=>?_;have bw1:=bg bW hb;clear hW hb;go_wp2;go_ret;exact⟨rfl,bw1⟩
 | true=>
  have hc:az H ys=false:=by
   cases hc:az H ys with
   | false=>rfl
   | true=>exact absurd ⟨by omega,hk,hc⟩ h
  rw[hk]at C1;rw[hc]at C2;clear h hk hc;go_enter func159,ntmps159;go_wp2_with fail;rw[<-hW];refine mr (C1.out _ bW) fun w1 hb=>?_;have bw1:=bg bW hb;replace B1:=B1.kept hb
  have q6:=B1.cell 6 rfl;have q7:=B1.cell 7 rfl;clear hW hb;go_wp2_with fail;refine mr (C2.out _ bw1) fun w2 hb=>?_;have bw2:=bg bw1 hb;clear hb;go_wp2;go_ret;exact⟨rfl,bw2⟩
theorem vq(n mm:Nat)(k V LM H:Int)(ao:Option Addr)(xs:List Nat)(cap:Nat)(qo:Option Addr)(ys:List Nat)(dap:Nat)(w:World)(hx:Wd w ao xs)(fx:aA xs)(hy:Wd w qo ys)(fy:aA ys)(xl:xs.length<=cap)(yl:ys.length<=dap)(hn:n<=1048576)(hm:mm<=n)(ik:aQ k V LM xs=true)(ck:az H ys=true)(B:Bool)(hB:B=true↔(k=(loN n mm:Int)/\V=(max (wdF n mm) 1:Nat)/\H=((mm+n/2^wdF n mm+1:Nat):Int)/\onesI H ys H=(mm:Int))):
  Qq 159 #[.agg #[.int .i64 n,.int .i64 mm,.int .i64 k,.int .i64 V,.int .i64 LM,.slice ao xs.length cap,.int .i64 H,.slice qo ys.length dap]] w (.bool B):=by
 have C1:Hid (Qz w 184 #[.agg #[.int .i64 k,.int .i64 V,.int .i64 LM,.slice ao xs.length cap]] (.bool true)):=fun w0 hb=>by
  have:=qw k V LM ao xs cap w0 (hx.keep hb);rw[ik]at this;exact this
 have C2:Hid (Qz w 83 #[.agg #[.int .i64 H,.slice qo ys.length dap]] (.bool true)):=fun w0 hb=>by
  have:=cF H qo ys dap w0 (hy.keep hb);rw[ck]at this;exact this
 have C3:Hid (∀w0,Qx 146 #[.int .i64 n,.int .i64 mm] w0 (.tuple #[.int .i64 (loN n mm),.int .i64 (max (wdF n mm) 1:Nat)])):=fun w0=>qB n mm hn hm w0
 have C4:Hid (∀w0,Qx 149 #[.int .i64 n,.int .i64 mm] w0 (.int .i64 ((mm+n/2^wdF n mm+1:Nat):Int))):=fun w0=>vm n mm hn hm w0
 have C5:Hid (Qz w 92 #[.agg #[.int .i64 H,.slice qo ys.length dap],.int .i64 H] (.int .i64 (onesI H ys H))):=fun w0 hb=>wn H qo ys dap H w0 (hy.keep hb) fy yl
 have HB:=aX hB;obtain⟨W,hW⟩:∃W,W=w.alloc (.cells #[.int .i64 n,.int .i64 mm,.int .i64 k,.int .i64 V,.int .i64 LM,.slice ao xs.length cap,.int .i64 H,.slice qo ys.length dap] 61):=⟨_,rfl⟩
 have bW:=aY hW;have B1:=bj hW;have i2:¬(1048576:Int)<(n:Int):=by omega
 have i4:¬(mm:Int)<0:=by omega
 have i5:¬(n:Int)<(mm:Int):=by omega
 clear hx hy fx fy ik ck hB;generalize loN n mm=a1 at *;generalize max (wdF n mm) 1=a2 at *;generalize mm+n/2^wdF n mm+1=a3 at *;generalize onesI H ys H=a4 at *;go_enter func159,ntmps159;go_wp2_with fail
 rw[<-hW];refine mr (C1.out _ bW) fun w1 hb=>?_;have bw1:=bg bW hb;replace B1:=B1.kept hb;have q6:=B1.cell 6 rfl;have q7:=B1.cell 7 rfl;clear hW hb bW C1;go_wp2_with fail
 refine mr (C2.out _ bw1) fun w2 hb=>?_;have bw2:=bg bw1 hb;replace B1:=B1.kept hb;clear hb bw1 C2 q6 q7;have q0:=B1.cell 0 rfl;have q1:=B1.cell 1 rfl;go_wp2_with fail
 refine mr (C3.out _) fun w3 h3=>?_;rw[h3];clear h3 C3 q0 q1;go_wp2_with fail
 refine bm [] (fun w0=>aa w0 w.heap.size [.int .i64 n,.int .i64 mm,.int .i64 k,.int .i64 V,.int .i64 LM,.slice ao xs.length cap,.int .i64 H,.slice qo ys.length dap] 61) (by kernel_rfl) ?_
 have hS:=B1.drew;by_cases e1:k=(a1:Int)
 .have e1b:(k==(a1:Int))=true:=by simp[e1]
  by_cases e2:V=(a2:Int)
  .have e2b:(V==(a2:Int))=true:=by simp[e2]
   by_cases e3:H=(a3:Int)
   .have e3b:(H==(a3:Int))=true:=by simp[e3]
    have HE:Hid (B=(a4==(mm:Int))):=by show B=_;rw[Bool.eq_iff_iff,HB.out];simp[e1,e2,e3]
    clear e1 e2 e3 HB;refine aK 0 hS ?_;refine aK 1 hS ?_;refine aF 2 hS rfl (fun w0 h0=>by have:=h0.cell 2 rfl;go_simp;try with_reducible rfl) ?_;refine aK 3 hS ?_;refine aK 4 hS ?_
    refine aK 5 hS ?_;refine aK 6 hS ?_;refine aK 7 hS ?_;refine aF 8 hS rfl (fun w0 h0=>by have:=h0.cell 3 rfl;go_simp;try with_reducible rfl) ?_;refine aK 9 hS ?_;refine aK 10 hS ?_
    refine aK 11 hS ?_;refine aK 12 hS ?_;refine aK 13 hS ?_;refine aK 14 hS ?_;refine aF 15 hS rfl (fun w0 h0=>by have:=h0.cell 6 rfl;go_simp;try with_reducible rfl) ?_;refine aK 16 hS ?_
    refine aF 17 hS rfl (fun w0 h0=>by have:=h0.cell 0 rfl;go_simp;try with_reducible rfl) ?_;refine aK 18 hS ?_
    refine aF 19 hS rfl (fun w0 h0=>by have:=h0.cell 1 rfl;go_simp;try with_reducible rfl) ?_;refine aO 20 ?_;intro K hK;go_simp;refine mr (C4.out _) fun w4 h4=>?_;rw[h4];clear h4
    refine hK.out _ _ (fun _=>hS) ?_;clear hK K;try simp only[Act.put,ar,an,am,ah,aj,ai]
    refine aK 21 hS ?_;refine aK 22 hS ?_;refine aK 23 hS ?_;refine aK 24 hS ?_;refine aF 25 hS rfl (fun w0 h0=>by have:=h0.cell 6 rfl;have:=h0.cell 7 rfl;go_simp;try with_reducible rfl) ?_
    refine aK 26 hS ?_;refine aK 27 hS ?_;refine aF 28 hS rfl (fun w0 h0=>by have:=h0.cell 6 rfl;go_simp;try with_reducible rfl) ?_;refine aK 30 hS ?_
    refine aF 31 hS rfl (fun w0 h0=>by have:=h0.cell 1 rfl;go_simp;try with_reducible rfl) ?_;refine aO 29 ?_;intro K hK;go_simp;refine mr (C5.out _ bw2.drew) fun w5 hb=>?_
    have bw5:=bw2.drew.trans (hb.mono bw2.drew.size);have hS5:=hS.kept hb;clear hb;refine hK.out _ _ (fun _=>hS5) ?_;clear hK K;try simp only[Act.put,ar,an,am,ah,aj,ai]
    refine aK 32 hS5 ?_;refine aK 33 hS5 ?_;refine aK 34 hS5 ?_;refine aw.done (by kernel_rfl) ?_ _;go_wp2;go_ret;rw[HE.out];exact⟨rfl,bw5⟩
   .have e3b:(H==(a3:Int))=false:=by simp[e3]
    obtain rfl:B=false:=Bool.eq_false_iff.2 fun h=>by have:=HB.out.1 h;omega
    clear e3 HB;refine aK 0 hS ?_;refine aK 1 hS ?_;refine aF 2 hS rfl (fun w0 h0=>by have:=h0.cell 2 rfl;go_simp;try with_reducible rfl) ?_;refine aK 3 hS ?_;refine aK 4 hS ?_
    refine aK 5 hS ?_;refine aK 6 hS ?_;refine aK 7 hS ?_;refine aF 8 hS rfl (fun w0 h0=>by have:=h0.cell 3 rfl;go_simp;try with_reducible rfl) ?_;refine aK 9 hS ?_;refine aK 10 hS ?_
    refine aK 11 hS ?_;refine aK 12 hS ?_;refine aK 13 hS ?_;refine aK 14 hS ?_;refine aF 15 hS rfl (fun w0 h0=>by have:=h0.cell 6 rfl;go_simp;try with_reducible rfl) ?_;refine aK 16 hS ?_
    refine aF 17 hS rfl (fun w0 h0=>by have:=h0.cell 0 rfl;go_simp;try with_reducible rfl) ?_;refine aK 18 hS ?_
    refine aF 19 hS rfl (fun w0 h0=>by have:=h0.cell 1 rfl;go_simp;try with_reducible rfl) ?_;refine aO 20 ?_;intro K hK;go_simp;refine mr (C4.out _) fun w4 h4=>?_;rw[h4];clear h4
    refine hK.out _ _ (fun _=>hS) ?_;clear hK K;try simp only[Act.put,ar,an,am,ah,aj,ai]
    refine aK 21 hS ?_;refine aK 22 hS ?_;refine aK 23 hS ?_;refine aS 24 hS ?_;refine aS 25 hS ?_;refine aS 26 hS ?_;refine aS 27 hS ?_;refine aS 28 hS ?_;refine aS 29 hS ?_
    refine aS 30 hS ?_;refine aS 31 hS ?_;refine aS 32 hS ?_;refine aK 33 hS ?_;refine aK 34 hS ?_;refine aw.done (by kernel_rfl) ?_ _;go_wp2;go_ret;exact⟨rfl,bw2.drew⟩
  .have e2b:(V==(a2:Int))=false:=by simp[e2]
   obtain rfl:B=false:=Bool.eq_false_iff.2 fun h=>by have:=HB.out.1 h;omega
   clear e2 HB;refine aK 0 hS ?_;refine aK 1 hS ?_;refine aF 2 hS rfl (fun w0 h0=>by have:=h0.cell 2 rfl;go_simp;try with_reducible rfl) ?_;refine aK 3 hS ?_;refine aK 4 hS ?_
   refine aK 5 hS ?_;refine aK 6 hS ?_;refine aK 7 hS ?_;refine aF 8 hS rfl (fun w0 h0=>by have:=h0.cell 3 rfl;go_simp;try with_reducible rfl) ?_;refine aK 9 hS ?_;refine aK 10 hS ?_
   refine aK 11 hS ?_;refine aK 12 hS ?_;refine aS 13 hS ?_;refine aS 14 hS ?_;refine aS 15 hS ?_;refine aS 16 hS ?_;refine aS 17 hS ?_;refine aS 18 hS ?_;refine aS 19 hS ?_
   refine aS 20 hS ?_;refine aS 21 hS ?_;refine aK 22 hS ?_;refine aK 23 hS ?_;refine aS 24 hS ?_;refine aS 25 hS ?_;refine aS 26 hS ?_;refine aS 27 hS ?_;refine aS 28 hS ?_
   refine aS 29 hS ?_;refine aS 30 hS ?_;refine aS 31 hS ?_;refine aS 32 hS ?_;refine aK 33 hS ?_;refine aK 34 hS ?_;refine aw.done (by kernel_rfl) ?_ _;go_wp2;go_ret;exact⟨rfl,bw2.drew⟩
 .have e1b:(k==(a1:Int))=false:=by simp[e1]
  obtain rfl:B=false:=Bool.eq_false_iff.2 fun h=>by have:=HB.out.1 h;omega
  clear e1 HB;refine aK 0 hS ?_;refine aK 1 hS ?_;refine aF 2 hS rfl (fun w0 h0=>by have:=h0.cell 2 rfl;go_simp;try with_reducible rfl) ?_;refine aK 3 hS ?_;refine aK 4 hS ?_;refine aK 5 hS ?_
  refine aS 6 hS ?_;refine aS 7 hS ?_;refine aS 8 hS ?_;refine aS 9 hS ?_;refine aS 10 hS ?_;refine aK 11 hS ?_;refine aK 12 hS ?_;refine aS 13 hS ?_;refine aS 14 hS ?_
  refine aS 15 hS ?_;refine aS 16 hS ?_;refine aS 17 hS ?_;refine aS 18 hS ?_;refine aS 19 hS ?_;refine aS 20 hS ?_;refine aS 21 hS ?_;refine aK 22 hS ?_;refine aK 23 hS ?_
  refine aS 24 hS ?_;refine aS 25 hS ?_;refine aS 26 hS ?_;refine aS 27 hS ?_;refine aS 28 hS ?_;refine aS 29 hS ?_;refine aS 30 hS ?_;refine aS 31 hS ?_;refine aS 32 hS ?_
  refine aK 33 hS ?_;refine aK 34 hS ?_;refine aw.done (by kernel_rfl) ?_ _;go_wp2;go_ret;exact⟨rfl,bw2.drew⟩
open Go.RowKit Go.Shelf Num Bit
attribute [local go_sem] Oper.semAt_some
def nx(p:Nat->Nat)(q:Nat):Nat:=if q=0 then 0 else p (q-1)+1
theorem CJ(p:Nat->Nat)(q:Nat):nx p (q+1)=p q+1:=rfl
theorem Bp(n mm:Nat)(xs:List Nat)(hh:Nat)(ys:List Nat)(q:Nat)(hn:n<=1048576)(hy:hh<=1048576)(hq:q<(plc (bitAt ys) hh).length):plq n mm xs hh ys q<=2199023255552:=by
 have h20:=fP n mm (by omega);have p20:2^wdF n mm<=1048576:=Nat.pow_le_pow_right (show 0<2 by decide) h20;have hl:numAt (wdF n mm) xs q<2^wdF n mm:=eH _ _;have h1:=(iz (bitAt ys) hh).1 q hq
 have h2:(gt (plc (bitAt ys) hh) q-q)*2^wdF n mm<=1048576*1048576:=Nat.mul_le_mul (by omega) p20;have h3:1048576*1048576=1099511627776:=by decide
 unfold plq;omega
theorem FK(n mm kn vn hh:Nat)(LM:Int)(ao:Option Addr)(xs:List Nat)(cap:Nat)(qo:Option Addr)(ys:List Nat)(dap:Nat)(w:World)(F:gF n mm kn vn LM xs hh ys)(hx:Wd w ao xs)(fx:aA xs)(hy:Wd w qo ys)(fy:aA ys)(FC:Hid (Qz w 159 #[.agg #[.int .i64 n,.int .i64 mm,.int .i64 kn,.int .i64 vn,.int .i64 LM,.slice ao xs.length cap,.int .i64 hh,.slice qo ys.length dap]] (.bool true)))(B:Bool)(hB:B=true↔oX n mm (plq n mm xs hh ys)):
  Qq 103 #[.agg #[.int .i64 n,.int .i64 mm,.int .i64 kn,.int .i64 vn,.int .i64 LM,.slice ao xs.length cap,.int .i64 hh,.slice qo ys.length dap]] w (.bool B):=by
 have nl:=F.hn;have hb20:=(bn _ _ F.ck).2.1;have PL:Hid (∀q,q<mm->plq n mm xs hh ys q<=2199023255552):=fun q hq=>Bp n mm xs hh ys q nl (by omega) (by rw[F.on];exact hq);have HB:=aX hB;clear hB
 refine(callsIn_wide (n:=0)).1 (callsIn_of_wp_marks func103 rfl trivial ?_)
 simp only[ntmps103,List.size_toArray,List.length_cons,List.length_nil,Nat.reduceAdd,Nat.reduceSub,Array.replicate_succ,Array.replicate_zero,List.push_toArray,List.append_toArray,List.nil_append,List.cons_append]
 refine wpIn_wide.2 ?_
 have PC:Hid (∀w0,Calls prog 134 #[.agg #[.int .i64 n,.int .i64 mm,.int .i64 kn,.int .i64 vn,.int .i64 LM,.slice ao xs.length cap,.int .i64 hh,.slice qo ys.length dap]] w0 fun e w'=>e=.returned (.func (.func 176) #[] #[.pointer (some ⟨w0.heap.size,0,none⟩),.pointer (some ⟨w0.heap.size+1,0,none⟩)])/\aa w' w0.heap.size [.int .i64 n,.int .i64 mm,.int .i64 kn,.int .i64 vn,.int .i64 LM,.slice ao xs.length cap,.int .i64 hh,.slice qo ys.length dap] 61/\aa w' (w0.heap.size+1) [.int .i64 (wdF n mm:Nat)] 3/\w'.heap.size=w0.heap.size+2/\Below w0.heap.size w0 w'):=fun w0=>li n mm kn vn hh LM ao xs cap qo ys dap F.hn F.hm w0
 obtain⟨W1,hW1⟩:∃W1,W1=(w.alloc (.cells #[.int .i64 n,.int .i64 mm,.int .i64 kn,.int .i64 vn,.int .i64 LM,.slice ao xs.length cap,.int .i64 hh,.slice qo ys.length dap] 61)).alloc (.cells #[.bool false] 4):=⟨_,rfl⟩
 have b1:Below w.heap.size w W1:=by rw[hW1];exact((below_alloc w _).alloc (by simp only[World.size_alloc];omega) _)
 have z1:W1.heap.size=w.heap.size+2:=by rw[hW1];simp
 have c0:aa W1 w.heap.size [.int .i64 n,.int .i64 mm,.int .i64 kn,.int .i64 vn,.int .i64 LM,.slice ao xs.length cap,.int .i64 hh,.slice qo ys.length dap] 61:=by rw[hW1];exact(aa.new w _ _).alloc _
 have c1:aa W1 (w.heap.size+1) [.bool false] 4:=by rw[hW1];exact aa.new2 w _ _ _
 go_wp2_with fail;rw[<-hW1];clear hW1;refine mr (FC.out _ b1) fun wf hb=>?_;replace b1:=bg b1 hb;replace c0:=c0.kept hb;replace c1:=c1.kept hb
 have zf:w.heap.size+2<=wf.heap.size:=by have:=hb.size;omega
 clear hb FC z1;obtain⟨g1,hg1⟩:∃g,g=wf.heap.size:=⟨_,rfl⟩;obtain⟨W2,hW2⟩:∃W2,W2=wf.alloc (.cells #[.int .i64 0] 3):=⟨_,rfl⟩;have bA:Below wf.heap.size wf W2:=by rw[hW2];exact below_alloc wf _
 have z2:W2.heap.size=g1+1:=by rw[hW2,hg1];simp
 have c2:aa W2 g1 [.int .i64 0] 3:=by rw[hW2,hg1];exact aa.new wf _ _
 have d0:aa (wf.alloc (.cells #[.int .i64 0] 3)) w.heap.size [.int .i64 n,.int .i64 mm,.int .i64 kn,.int .i64 vn,.int .i64 LM,.slice ao xs.length cap,.int .i64 hh,.slice qo ys.length dap] 61:=c0.alloc _
 have q0:=d0.cell 0 rfl;have q1:=d0.cell 1 rfl;have q2:=d0.cell 2 rfl;have q3:=d0.cell 3 rfl;have q4:=d0.cell 4 rfl;have q5:=d0.cell 5 rfl;have q6:=d0.cell 6 rfl;have q7:=d0.cell 7 rfl;have HG:=aX hg1
 clear hg1;have HW2:=aX hW2;clear hW2;go_wp2_with fail;rw[<-HW2.out];refine(PC.out _).mono ?_;rintro e w' ⟨rfl,cx,cw,z3,b3⟩;rw[z2]at cx cw z3 b3;rw[z2,<-HG.out];rw[<-HG.out]at zf
 have b4:Below w.heap.size w w':=(bg b1 bA).trans (b3.mono (by omega));replace c0:=(c0.kept bA).keep b3 (by omega);replace c1:=(c1.kept bA).keep b3 (by omega);replace c2:=c2.keep b3 (by omega)
 clear b1 bA b3 PC HW2 d0 q0 q1 q2 q3 q4 q5 q6 q7;go_wp2
 have G:=(kJ n mm kn vn hh LM ao xs cap qo ys dap (fun b=>(b≠w.heap.size+1/\b≠g1)/\b≠w'.heap.size+1) w' (g1+1) (g1+1+1) F (hx.keep b4) fx (hy.keep b4) fy cx cw (by omega) (by omega) (fun p hp h0=>by have:=hx.blk hp h0;omega) (fun p hp h0=>by have:=hy.blk hp h0;omega))
 generalize plq n mm xs hh ys=p at *
 refine iT (gf:=176) (lb:=#[.pointer (some ⟨g1+1,0,none⟩),.pointer (some ⟨g1+2,0,none⟩)]) (K:=fun b=>b≠w.heap.size+1/\b≠g1) rfl (enters_of func176 (by kernel_rfl) rfl) (fun _=>rfl) G (fun b hb=>by omega)
  (fun q Wc=>aE (fun b=>b≠w.heap.size+1/\b≠g1) w' Wc/\aa Wc (w.heap.size+1) [.bool false] 4/\aa Wc g1 [.int .i64 (nx p q:Nat)] 3/\∀j,j<q->p j<n/\(0<j->p (j-1)<p j)) (fun q Wc=>aE (fun b=>b≠w.heap.size+1/\b≠g1) w' Wc/\aa Wc (w.heap.size+1) [.bool false] 4/\¬oX n mm p) (fun q A B h hb=>⟨h.1.more hb (Nat.le_refl _),h.2.1.keep hb (by omega),h.2.2.1.keep hb (by omega),h.2.2.2⟩) (fun q A B h hb=>⟨h.1.more hb (Nat.le_refl _),h.2.1.keep hb (by omega),h.2.2⟩) ⟨aE.refl _ _,c1,c2,fun j hj=>absurd hj (by omega)⟩
  (fun q=>{ tmps:=#[.agg #[.int .i64 n,.int .i64 mm,.int .i64 kn,.int .i64 vn,.int .i64 LM,.slice ao xs.length cap,.int .i64 hh,.slice qo ys.length dap],.pointer (some ⟨w.heap.size,0,none⟩),.pointer (some ⟨w.heap.size+1,0,none⟩),.pointer (some ⟨g1,0,none⟩),undef,.int .i64 (p q:Nat),.agg #[.int .i64 n,.int .i64 mm,.int .i64 kn,.int .i64 vn,.int .i64 LM,.slice ao xs.length cap,.int .i64 hh,.slice qo ys.length dap],.bool true,.bool false,.agg #[.int .i64 n,.int .i64 mm,.int .i64 kn,.int .i64 vn,.int .i64 LM,.slice ao xs.length cap,.int .i64 hh,.slice qo ys.length dap],.func (.func 176) #[] #[.pointer (some ⟨g1+1,0,none⟩),.pointer (some ⟨g1+2,0,none⟩)],.int .i64 (q:Nat),.int .i64 (p q:Nat),undef,undef,undef,undef,undef,undef,undef,undef,undef,undef,undef],defers:=[] }) ?assign ?body ?done ?stop
 case assign=>
  intro l1 q Wc K1 hK1;gi_wp2;exact hK1
 case body=>
  rintro l1 q Wc hq ⟨hk,cR,cN,hlt⟩ hz;have m0:=(hk.cel c0 (by omega)).cell 0 rfl;have r0:=cR.cell 0 rfl;have r1:=cR.frozen 0;have s0:=cN.cell 0 rfl;have s1:=cN.frozen 0;have pq:=PL.out q hq
  have NS:=aX (CJ p q)
  have NG:Hid (p q<nx p q\/n<=p q->¬oX n mm p):=fun h hG=>by
   obtain⟨g1,g2⟩:=hG q hq;unfold nx at h;split at h
   .omega
   .have:=g2 (by omega);omega
  have NN:Hid (¬(p q<nx p q\/n<=p q)->∀j,j<q+1->p j<n/\(0<j->p (j-1)<p j)):=fun h j hj=>by
   by_cases e:j=q
   .subst e;unfold nx at h;split at h
    .exact⟨by omega,fun h0=>by omega⟩
    .exact⟨by omega,fun h0=>by omega⟩
   .exact hlt j (by omega)
  have HX:Hid (aE (fun b=>b≠w.heap.size+1/\b≠g1) Wc (Wc.setCell ⟨w.heap.size+1,0,none⟩ (.bool false))/\aE (fun b=>b≠w.heap.size+1/\b≠g1) w' (Wc.setCell ⟨w.heap.size+1,0,none⟩ (.bool false))/\aa (Wc.setCell ⟨w.heap.size+1,0,none⟩ (.bool false)) (w.heap.size+1) [.bool false] 4):=⟨(aE.refl _ _).setCell (fun h=>h.1 rfl) _,hk.setCell (fun h=>h.1 rfl) _,cR.set 0 _⟩
  have HY:Hid (aE (fun b=>b≠w.heap.size+1/\b≠g1) Wc (Wc.setCell ⟨g1,0,none⟩ (.int .i64 ((p q:Int)+1)))/\aE (fun b=>b≠w.heap.size+1/\b≠g1) w' (Wc.setCell ⟨g1,0,none⟩ (.int .i64 ((p q:Int)+1)))/\aa (Wc.setCell ⟨g1,0,none⟩ (.int .i64 ((p q:Int)+1))) (w.heap.size+1) [.bool false] 4/\aa (Wc.setCell ⟨g1,0,none⟩ (.int .i64 ((p q:Int)+1))) g1 [.int .i64 (nx p (q+1):Nat)] 3):=⟨(aE.refl _ _).setCell (fun h=>h.2 rfl) _,hk.setCell (fun h=>h.2 rfl) _,cR.other (show w.heap.size+1≠g1 by omega) _,by rw[NS.out,show((p q+1:Nat):Int)=(p q:Int)+1 by omega];exact cN.set 0 _⟩
  clear G hlt PL;generalize nx p q=a at *;by_cases h1:p q<a
  .have h12:(p q:Int)<(a:Int):=by omega
   gi_wp2;exact⟨HX.out.1,HX.out.2.1,HX.out.2.2,NG.out (.inl h1)⟩
  .have h12:¬(p q:Int)<(a:Int):=by omega
   by_cases h2:n<=p q
   .have h22:(n:Int)<=(p q:Int):=by omega
    gi_wp2;exact⟨HX.out.1,HX.out.2.1,HX.out.2.2,NG.out (.inr h2)⟩
   .have h22:¬(n:Int)<=(p q:Int):=by omega
    gi_wp2;exact⟨HY.out.1,HY.out.2.1,HY.out.2.2.1,HY.out.2.2.2,NN.out (by omega)⟩
 case done=>
  rintro D Wc hD ⟨hk,cR,cN,hlt⟩ hd;have r0:=cR.cell 0 rfl;have r1:=cR.frozen 0
  have hb:=aX (((hk.below (B:=w.heap.size) (fun x h=>by omega) (by omega))).setCell (p:=⟨w.heap.size+1,0,none⟩) (show w.heap.size<=w.heap.size+1 by omega) (.bool true));have cS:=aX (cR.set 0 (.bool true))
  have hd2:=aX ((Below.heap_setCell Wc ⟨w.heap.size+1,0,none⟩ (.bool true) D (show D≠w.heap.size+1 by omega)).trans hd);obtain rfl:B=true:=HB.out.2 hlt;clear hd hk hlt;go_wp2
  have cR2:=(cS.out.put (.deferred none) (show w.heap.size+1≠D by omega)).cell 0 rfl
  exact gj hd2.out (v:=.bool true) (by simp[results,Tryz.results103,go_sem,cR2]) ⟨rfl,b4.trans (hb.out.trans (dX (by omega) _))⟩
 case stop=>
  rintro D q Wc hD hq ⟨hk,cR,hn⟩ hd;obtain rfl:B=false:=Bool.eq_false_iff.2 fun h=>hn (HB.out.1 h);go_wp2;have cR2:=(cR.put (.deferred none) (show w.heap.size+1≠D by omega)).cell 0 rfl
  exact gj hd (v:=.bool false) (by simp[results,Tryz.results103,go_sem,cR2]) ⟨rfl,b4.trans ((hk.below (fun x h=>by omega) (by omega)).trans (dX (by omega) _))⟩
theorem vw(a0 a1 a2 a3 a4 a5 a6 a7:Value)(w:World)(FC:Hid (Qz w 159 #[.agg #[a0,a1,a2,a3,a4,a5,a6,a7]] (.bool false))):
  Qq 103 #[.agg #[a0,a1,a2,a3,a4,a5,a6,a7]] w (.bool false):=by
 refine(callsIn_wide (n:=0)).1 (callsIn_of_wp_marks func103 rfl trivial ?_)
 simp only[ntmps103,List.size_toArray,List.length_cons,List.length_nil,Nat.reduceAdd,Nat.reduceSub,Array.replicate_succ,Array.replicate_zero,List.push_toArray,List.append_toArray,List.nil_append,List.cons_append]
 refine wpIn_wide.2 ?_;obtain⟨W1,hW1⟩:∃W1,W1=(w.alloc (.cells #[a0,a1,a2,a3,a4,a5,a6,a7] 61)).alloc (.cells #[.bool false] 4):=⟨_,rfl⟩
 have b1:Below w.heap.size w W1:=by rw[hW1];exact((below_alloc w _).alloc (by simp only[World.size_alloc];omega) _)
 have c1:aa W1 (w.heap.size+1) [.bool false] 4:=by rw[hW1];exact aa.new2 w _ _ _
 go_wp2_with fail;rw[<-hW1];clear hW1;refine mr (FC.out _ b1) fun wf hb=>?_;replace b1:=bg b1 hb;replace c1:=c1.kept hb;have r0:=c1.cell 0 rfl;have r1:=c1.frozen 0
 have HZ:=aX (And.intro (c1.set 0 (.bool false)) (b1.setCell (p:=⟨w.heap.size+1,0,none⟩) (show w.heap.size<=w.heap.size+1 by omega) (.bool false)));clear hb FC b1;go_wp2;have r2:=HZ.out.1.cell 0 rfl
 exact⟨.bool false,by simp[results,Tryz.results103,go_sem,r2],rfl,HZ.out.2⟩
theorem kY(a:bp)(h:kOk9 a=true):∃(n mm kn vn hh:Nat) (LM:Int) (xs ys:List Nat),a=⟨n,mm,kn,vn,LM,xs,hh,ys⟩:=by
 obtain⟨_,e⟩:=ms a h;rw[e];exact⟨_,_,_,_,_,_,_,_,rfl⟩
theorem Hp(cs:List Value)(a:bp)(w:World)(h:br w cs a):
  Qq 103 #[.agg cs.toArray] w (.bool (kOk9 a)):=by
 obtain⟨⟨ao,cap,qo,dap,rfl,ir,a1,a2,a3,a4,a5,a6⟩,n3,xl,yl⟩:=h;obtain⟨N,M,k,V,LM,xs,H,ys⟩:=a;dsimp only at *;by_cases P1:(0<=M/\M<=N/\N<=1048576)/\aQ k V LM xs=true/\az H ys=true
 .obtain⟨⟨p1,p2,p3⟩,p4,p5⟩:=P1;obtain⟨v1,v2,v3,v4,v5,v6,v7,v8⟩:=dC _ _ _ _ p4;obtain⟨u1,u2,u3,u4⟩:=bn _ _ p5;obtain⟨n,rfl⟩:=Int.eq_ofNat_of_zero_le (show 0<=N by omega)
  obtain⟨mm,rfl⟩:=Int.eq_ofNat_of_zero_le p1;obtain⟨kn,rfl⟩:=Int.eq_ofNat_of_zero_le v3;obtain⟨vn,rfl⟩:=Int.eq_ofNat_of_zero_le (show 0<=V by omega);obtain⟨hh,rfl⟩:=Int.eq_ofNat_of_zero_le u1
  have on:onesI (hh:Int) ys (hh:Int)=((plc (bitAt ys) hh).length:Int):=by
   rw[tq];unfold onesI;rw[p5,show min (hh:Int) (hh:Int)=(hh:Int)by omega,Int.toNat_natCast];rfl
  by_cases P2:(kn:Int)=(loN n mm:Int)/\(vn:Int)=(max (wdF n mm) 1:Nat)/\(hh:Int)=((mm+n/2^wdF n mm+1:Nat):Int)/\onesI (hh:Int) ys (hh:Int)=(mm:Int)
  .obtain⟨g1,g2,g3,g4⟩:=P2;rw[on]at g4;have F:gF n mm kn vn LM xs hh ys:=⟨by omega,by omega,p4,p5,by omega,by omega,by omega,by omega⟩
   have FC:Hid (Qz w 159 #[.agg #[.int .i64 n,.int .i64 mm,.int .i64 kn,.int .i64 vn,.int .i64 LM,.slice ao xs.length cap,.int .i64 hh,.slice qo ys.length dap]] (.bool true)):=fun w0 hb=>
    vq n mm kn vn LM hh ao xs cap qo ys dap w0 (a1.keep hb) a2 (a4.keep hb) a5 a3 a6 (by omega) (by omega) p4 p5 true ⟨fun _=>⟨g1,g2,g3,by rw[on];exact g4⟩,fun _=>rfl⟩
   refine FK n mm kn vn hh LM ao xs cap qo ys dap w F a1 a2 a4 a5 FC _ ⟨fun hk=>?_,fun hG=>Gf n mm kn vn hh LM xs ys a2 a5 F hG⟩;obtain⟨_,hl,hg,hr⟩:=iV n mm kn vn hh LM xs ys hk;intro q hq
   rw[hg q hq];refine⟨hr.1 q (by omega),fun h0=>?_⟩;rw[hg (q-1) (by omega)];exact hr.lt (by omega) (by omega)
  .have ko:kOk9 ⟨n,mm,kn,vn,LM,xs,hh,ys⟩=false:=Bool.eq_false_iff.2 fun hk=>by
    obtain⟨F,_⟩:=iV n mm kn vn hh LM xs ys hk;exact P2 ⟨by rw[F.hk],by rw[F.hv],by rw[F.hh],by rw[on,F.on]⟩
   rw[ko];refine vw _ _ _ _ _ _ _ _ w fun w0 hb=>?_
   exact vq n mm kn vn LM hh ao xs cap qo ys dap w0 (a1.keep hb) a2 (a4.keep hb) a5 a3 a6 (by omega) (by omega) p4 p5 false ⟨fun h=>absurd h (by simp),fun h=>absurd h P2⟩
 .have ko:kOk9 ⟨N,M,k,V,LM,xs,H,ys⟩=false:=Bool.eq_false_iff.2 fun hk=>by
   obtain⟨n,mm,kn,vn,hh,LM',xs',ys',e⟩:=kY _ hk;simp only[FA.mk.injEq]at e;obtain⟨rfl,rfl,rfl,rfl,rfl,rfl,rfl,rfl⟩:=e;obtain⟨F,_⟩:=iV n mm kn vn hh LM xs ys hk
   exact P1 ⟨⟨by omega,by have:=F.hm;omega,by have:=F.hn;omega⟩,F.ik,F.ck⟩
  rw[ko];refine vw _ _ _ _ _ _ _ _ w fun w0 hb=>?_;exact FI N M k V LM H ao xs cap qo ys dap w0 (a1.keep hb) a2 (a4.keep hb) a5 a3 a6 P1
theorem iL{w:World}{cs:List Value}{a:bp}(h:br w cs a)(b:Bool)(hb:kOk9 a=b):Hid (Qz w 103 #[.agg cs.toArray] (.bool b)):=fun w0 hw=>by
 have:=Hp cs a w0 (h.keep hw);rw[hb]at this;exact this
theorem IE(cs:List Value)(a:bp)(w:World)(h:br w cs a):
  Calls prog 81 #[.agg cs.toArray] w fun e w'=>∃bo bc,e=.returned (.agg #[.int .i64 (kBN9 a),.slice bo (kBX9 a).length bc])/\Wd w' bo (kBX9 a)/\(kBX9 a).length<=bc/\Below w.heap.size w w':=by
 cases hk:kOk9 a with
 | false=>
  have CC:=iL h false hk;have e1:kBN9 a=0:=by unfold kBN9;rw[hk];rfl
  have e2:kBX9 a=[]:=by unfold kBX9;rw[hk];rfl
  rw[e1,e2];obtain⟨⟨ao,cap,qo,dap,rfl,_⟩,_⟩:=h;refine mr (FP _ _ _ _ _ _ _ _ w CC) fun w' hb=>?_;exact⟨none,0,rfl,cm _ _,Nat.zero_le _,hb⟩
 | true=>
  have CC:=iL h true hk;obtain⟨n,mm,kn,vn,hh,LM,xs,ys,rfl⟩:=kY a hk;obtain⟨F,hl,hg,hr⟩:=iV n mm kn vn hh LM xs ys hk
  have e1:kBN9 ⟨n,mm,kn,vn,LM,xs,hh,ys⟩=(n:Int):=by unfold kBN9;rw[if_pos hk]
  have e2:kBX9 ⟨n,mm,kn,vn,LM,xs,hh,ys⟩=rowOf n (isIn (kRow ⟨n,mm,kn,vn,LM,xs,hh,ys⟩)):=by unfold kBX9;rw[if_pos hk];rfl
  rw[e1,e2];obtain⟨⟨ao,cap,qo,dap,rfl,ir,a1,a2,a3,a4,a5,a6⟩,n3,xl,yl⟩:=h;exact FO n mm kn vn hh LM ao xs cap qo ys dap _ w F a1 a2 a4 a5 hl hg hr CC
theorem yE(cs:List Value)(a:bp)(w:World)(h:br w cs a):
  Qq 69 #[.agg cs.toArray] w (.int .i64 (kZ9 a)):=by
 cases hk:kOk9 a with
 | false=>
  have CC:=iL h false hk;have e1:kZ9 a=0:=by unfold kZ9;rw[hk];rfl
  rw[e1];obtain⟨⟨ao,cap,qo,dap,rfl,_⟩,_⟩:=h;obtain⟨N,M,k,V,LM,xs,H,ys⟩:=a;dsimp only at *
  obtain⟨W,hW⟩:∃W,W=w.alloc (.cells #[.int .i64 N,.int .i64 M,.int .i64 k,.int .i64 V,.int .i64 LM,.slice ao xs.length cap,.int .i64 H,.slice qo ys.length dap] 61):=⟨_,rfl⟩;have bW:=aY hW;have B1:=bj hW
  go_enter func69,ntmps69;go_wp2_with fail;rw[<-hW];refine mr (CC.out _ bW) fun w1 hb=>?_;have bw1:=bg bW hb;replace B1:=B1.kept hb;clear hb CC hW bW;go_wp2;go_ret;exact⟨rfl,bw1⟩
 | true=>
  have CC:=iL h true hk;obtain⟨n,mm,kn,vn,hh,LM,xs,ys,rfl⟩:=kY a hk;obtain⟨F,hl,hg,hr⟩:=iV n mm kn vn hh LM xs ys hk
  have e1:kZ9 ⟨n,mm,kn,vn,LM,xs,hh,ys⟩=LM+(hh:Int)+64:=by unfold kZ9;rw[if_pos hk]
  rw[e1];obtain⟨_,_,_,_,_,l1,l2,_⟩:=dC _ _ _ _ F.ik;obtain⟨_,l3,_,_⟩:=bn _ _ F.ck;obtain⟨⟨ao,cap,qo,dap,rfl,ir,a1,a2,a3,a4,a5,a6⟩,n3,xl,yl⟩:=h;dsimp only at *
  clear ir a1 a2 a3 a4 a5 a6 F hl hg hr hk
  obtain⟨W,hW⟩:∃W,W=w.alloc (.cells #[.int .i64 n,.int .i64 mm,.int .i64 kn,.int .i64 vn,.int .i64 LM,.slice ao xs.length cap,.int .i64 hh,.slice qo ys.length dap] 61):=⟨_,rfl⟩
  have bW:=aY hW;have B1:=bj hW;go_enter func69,ntmps69;go_wp2_with fail;rw[<-hW];refine mr (CC.out _ bW) fun w1 hb=>?_;have bw1:=bg bW hb;replace B1:=B1.kept hb
  clear hb CC hW bW;have q4:=B1.cell 4 rfl;have q6:=B1.cell 6 rfl;go_wp2;go_ret;exact⟨rfl,bw1⟩
theorem Jm(cs:List Value)(a:bp)(i:Int)(w:World)(h:br w cs a)(hi:aD i):
  Qq 58 #[.agg cs.toArray,.int .i64 i] w (.tuple #[.bool (gaB (kOk9 a) (kBN9 a) (kBX9 a) i),.int .i64 (gaE (kOk9 a) (kBN9 a) (kBX9 a) i)]):=by
 obtain⟨P1,hP1⟩:∃P:Bool,Hid (P=gaB (kOk9 a) (kBN9 a) (kBX9 a) i):=⟨gaB (kOk9 a) (kBN9 a) (kBX9 a) i,(rfl:gaB (kOk9 a) (kBN9 a) (kBX9 a) i=gaB (kOk9 a) (kBN9 a) (kBX9 a) i)⟩
 obtain⟨P2,hP2⟩:∃P:Int,Hid (P=gaE (kOk9 a) (kBN9 a) (kBX9 a) i):=⟨gaE (kOk9 a) (kBN9 a) (kBX9 a) i,(rfl:gaE (kOk9 a) (kBN9 a) (kBX9 a) i=gaE (kOk9 a) (kBN9 a) (kBX9 a) i)⟩;rw[<-hP1.out,<-hP2.out]
 cases hk:kOk9 a with
 | false=>
  have CC:=iL h false hk
  have E:Hid (P1=false/\P2=2):=by
   show _/\_;rw[hP1.out,hP2.out];unfold gaB gaE;rw[hk];exact⟨rfl,rfl⟩
  obtain⟨⟨ao,cap,qo,dap,rfl,_⟩,_⟩:=h;obtain⟨N,M,k,V,LM,xs,H,ys⟩:=a;dsimp only at *;clear hP1 hP2
  obtain⟨W,hW⟩:∃W,W=w.alloc (.cells #[.int .i64 N,.int .i64 M,.int .i64 k,.int .i64 V,.int .i64 LM,.slice ao xs.length cap,.int .i64 H,.slice qo ys.length dap] 61):=⟨_,rfl⟩;have bW:=aY hW;have B1:=bj hW
  go_enter func58,ntmps58;go_wp2_with fail;rw[<-hW];refine mr (CC.out _ bW) fun w1 hb=>?_;have bw1:=bg bW hb;replace B1:=B1.kept hb;clear hb CC hW bW;go_wp2;go_ret2
  rw[E.out.1,E.out.2];exact⟨rfl,bw1⟩
 | true=>
  have CC:=iL h true hk;have hck:=k6 a hk;obtain⟨n,mm,kn,vn,hh,LM,xs,ys,rfl⟩:=kY a hk;obtain⟨F,hl,hg,hr⟩:=iV n mm kn vn hh LM xs ys hk
  have e1:kBN9 ⟨n,mm,kn,vn,LM,xs,hh,ys⟩=(n:Int):=by unfold kBN9;rw[if_pos hk]
  have e2:kBX9 ⟨n,mm,kn,vn,LM,xs,hh,ys⟩=rowOf n (isIn (kRow ⟨n,mm,kn,vn,LM,xs,hh,ys⟩)):=by unfold kBX9;rw[if_pos hk];rfl
  rw[e1,e2]at hck;rw[hk,e1,e2]at hP1;rw[hk,e1,e2]at hP2;generalize kRow ⟨n,mm,kn,vn,LM,xs,hh,ys⟩=l at *;obtain⟨⟨ao,cap,qo,dap,rfl,ir,a1,a2,a3,a4,a5,a6⟩,n3,xl,yl⟩:=h;dsimp only at *
  have nl:=F.hn;have ml:=F.hm;clear hk e1 e2 n3 xl yl ir
  obtain⟨W,hW⟩:∃W,W=w.alloc (.cells #[.int .i64 n,.int .i64 mm,.int .i64 kn,.int .i64 vn,.int .i64 LM,.slice ao xs.length cap,.int .i64 hh,.slice qo ys.length dap] 61):=⟨_,rfl⟩
  have bW:=aY hW;have B1:=bj hW;by_cases i0:i<0\/(n:Int)<=i
  .have E:Hid (P1=false/\P2=3):=by
    show _/\_;rw[hP1.out,hP2.out];unfold gaB gaE fJ c_;rw[hck,if_pos rfl,if_neg (by simp),if_pos i0,decide_eq_false (by omega)];exact⟨rfl,rfl⟩
   clear hP1 hP2 hck hl hg hr F a1 a4 a2 a5;rcases i0 with i0 | i0
   .skip;go_enter func58,ntmps58;go_wp2_with fail;rw[<-hW];refine mr (CC.out _ bW) fun w1 hb=>?_;have bw1:=bg bW hb;replace B1:=B1.kept hb;clear hb CC hW bW
    have q0:=B1.cell 0 rfl;go_wp2;go_ret2;rw[E.out.1,E.out.2];exact⟨rfl,bw1⟩
   .skip;have i1:¬i<0:=by omega
    go_enter func58,ntmps58;go_wp2_with fail;rw[<-hW];refine mr (CC.out _ bW) fun w1 hb=>?_;have bw1:=bg bW hb;replace B1:=B1.kept hb;clear hb CC hW bW;have q0:=B1.cell 0 rfl
    go_wp2;go_ret2;rw[E.out.1,E.out.2];exact⟨rfl,bw1⟩
  .obtain⟨j,rfl⟩:=Int.eq_ofNat_of_zero_le (show 0<=i by omega)
   have E:Hid (P1=isIn l j/\P2=0):=by
    show _/\_;rw[hP1.out,hP2.out];unfold gaB gaE fJ c_;rw[hck,if_pos rfl,if_neg (by simp),if_neg i0,decide_eq_true (by omega),Int.toNat_natCast,oQ n l hr];exact⟨rfl,rfl⟩
   have C2:Hid (Qz w 104 #[.agg #[.int .i64 n,.int .i64 mm,.int .i64 kn,.int .i64 vn,.int .i64 LM,.slice ao xs.length cap,.int .i64 hh,.slice qo ys.length dap],.int .i64 j] (.bool (isIn l j))):=fun w0 hb=>FF n mm kn vn hh LM ao xs cap qo ys dap l w0 F (a1.keep hb) a2 (a4.keep hb) a5 hl hg hr j (by omega)
   have i1:¬(j:Int)<0:=by omega
   have i2:¬(n:Int)<=(j:Int):=by omega
   clear hP1 hP2 hck hl hg hr F a1 a4 a2 a5 i0;go_enter func58,ntmps58;go_wp2_with fail;rw[<-hW];refine mr (CC.out _ bW) fun w1 hb=>?_;have bw1:=bg bW hb;replace B1:=B1.kept hb
   clear hb CC hW bW;have q0:=B1.cell 0 rfl;have q1:=B1.cell 1 rfl;have q2:=B1.cell 2 rfl;have q3:=B1.cell 3 rfl;have q4:=B1.cell 4 rfl;have q5:=B1.cell 5 rfl;have q6:=B1.cell 6 rfl;have q7:=B1.cell 7 rfl
   go_wp2_with fail;refine mr (C2.out _ bw1) fun w2 hb=>?_;have bw2:=bg bw1 hb;clear hb;go_wp2;go_ret2;rw[E.out.1,E.out.2];exact⟨rfl,bw2⟩
theorem Ao(cs:List Value)(a:bp)(bit:Bool)(i:Int)(w:World)(h:br w cs a)(hi:aD i):
  Qq 78 #[.agg cs.toArray,.bool bit,.int .i64 i] w (.tuple #[.int .i64 (grN (kOk9 a) (kBN9 a) (kBX9 a) bit i),.int .i64 (grE (kOk9 a) (kBN9 a) i)]):=by
 obtain⟨P1,hP1⟩:∃P:Int,Hid (P=grN (kOk9 a) (kBN9 a) (kBX9 a) bit i):=⟨grN (kOk9 a) (kBN9 a) (kBX9 a) bit i,(rfl:grN (kOk9 a) (kBN9 a) (kBX9 a) bit i=grN (kOk9 a) (kBN9 a) (kBX9 a) bit i)⟩
 obtain⟨P2,hP2⟩:∃P:Int,Hid (P=grE (kOk9 a) (kBN9 a) i):=⟨grE (kOk9 a) (kBN9 a) i,(rfl:grE (kOk9 a) (kBN9 a) i=grE (kOk9 a) (kBN9 a) i)⟩;rw[<-hP1.out,<-hP2.out];cases hk:kOk9 a with
 | false=>
  have CC:=iL h false hk
  have E:Hid (P1=0/\P2=2):=by
   show _/\_;rw[hP1.out,hP2.out];unfold grN grE;rw[hk];exact⟨rfl,rfl⟩
  obtain⟨⟨ao,cap,qo,dap,rfl,_⟩,_⟩:=h;obtain⟨N,M,k,V,LM,xs,H,ys⟩:=a;dsimp only at *;clear hP1 hP2
  obtain⟨W,hW⟩:∃W,W=w.alloc (.cells #[.int .i64 N,.int .i64 M,.int .i64 k,.int .i64 V,.int .i64 LM,.slice ao xs.length cap,.int .i64 H,.slice qo ys.length dap] 61):=⟨_,rfl⟩;have bW:=aY hW;have B1:=bj hW
  go_enter func78,ntmps78;go_wp2_with fail;rw[<-hW];refine mr (CC.out _ bW) fun w1 hb=>?_;have bw1:=bg bW hb;replace B1:=B1.kept hb;clear hb CC hW bW;go_wp2;go_ret2
  rw[E.out.1,E.out.2];exact⟨rfl,bw1⟩
 | true=>
  have CC:=iL h true hk;have hck:=k6 a hk;obtain⟨n,mm,kn,vn,hh,LM,xs,ys,rfl⟩:=kY a hk;obtain⟨F,hl,hg,hr⟩:=iV n mm kn vn hh LM xs ys hk
  have e1:kBN9 ⟨n,mm,kn,vn,LM,xs,hh,ys⟩=(n:Int):=by unfold kBN9;rw[if_pos hk]
  have e2:kBX9 ⟨n,mm,kn,vn,LM,xs,hh,ys⟩=rowOf n (isIn (kRow ⟨n,mm,kn,vn,LM,xs,hh,ys⟩)):=by unfold kBX9;rw[if_pos hk];rfl
  rw[e1,e2]at hck;rw[hk,e1,e2]at hP1;rw[hk,e1]at hP2;generalize kRow ⟨n,mm,kn,vn,LM,xs,hh,ys⟩=l at *;obtain⟨⟨ao,cap,qo,dap,rfl,ir,a1,a2,a3,a4,a5,a6⟩,n3,xl,yl⟩:=h;dsimp only at *;have nl:=F.hn
  have ml:=F.hm;clear hk e1 e2 n3 xl yl ir
  obtain⟨W,hW⟩:∃W,W=w.alloc (.cells #[.int .i64 n,.int .i64 mm,.int .i64 kn,.int .i64 vn,.int .i64 LM,.slice ao xs.length cap,.int .i64 hh,.slice qo ys.length dap] 61):=⟨_,rfl⟩
  have bW:=aY hW;have B1:=bj hW;by_cases i0:i<0\/(n:Int)<i
  .have E:Hid (P1=0/\P2=3):=by
    show _/\_;rw[hP1.out,hP2.out];unfold grN grE;rw[if_pos rfl,if_pos i0];exact⟨rfl,rfl⟩
   clear hP1 hP2 hck hl hg hr F a1 a4 a2 a5;rcases i0 with i0 | i0
   .skip;go_enter func78,ntmps78;go_wp2_with fail;rw[<-hW];refine mr (CC.out _ bW) fun w1 hb=>?_;have bw1:=bg bW hb;replace B1:=B1.kept hb;clear hb CC hW bW
    have q0:=B1.cell 0 rfl;go_wp2;go_ret2;rw[E.out.1,E.out.2];exact⟨rfl,bw1⟩
   .skip;have i1:¬i<0:=by omega
    go_enter func78,ntmps78;go_wp2_with fail;rw[<-hW];refine mr (CC.out _ bW) fun w1 hb=>?_;have bw1:=bg bW hb;replace B1:=B1.kept hb;clear hb CC hW bW;have q0:=B1.cell 0 rfl
    go_wp2;go_ret2;rw[E.out.1,E.out.2];exact⟨rfl,bw1⟩
  .obtain⟨j,rfl⟩:=Int.eq_ofNat_of_zero_le (show 0<=i by omega);obtain⟨c,hc⟩:∃c,c=cntB (rowOf n (isIn l)) j:=⟨_,rfl⟩;have cj:c<=j:=by rw[hc];exact gB _ _
   have E:Hid (P1=((if bit then c else j-c:Nat):Int)/\P2=0):=by
    show _/\_;rw[hP1.out,hP2.out];unfold grN grE;rw[if_pos rfl,if_neg i0,if_pos rfl,Int.toNat_natCast];unfold cB;rw[<-hc];exact⟨rfl,rfl⟩
   have C2:Hid (Qz w 129 #[.agg #[.int .i64 n,.int .i64 mm,.int .i64 kn,.int .i64 vn,.int .i64 LM,.slice ao xs.length cap,.int .i64 hh,.slice qo ys.length dap],.int .i64 j] (.int .i64 (c:Nat))):=fun w0 hb=>FB n mm kn vn hh LM ao xs cap qo ys dap l w0 F (a1.keep hb) a2 (a4.keep hb) a5 hl hg hr j (by omega) c (by rw[hc];exact oG hr j)
   have C3:Hid (∀w0,Qx 128 #[.bool bit,.int .i64 j,.int .i64 (c:Nat)] w0 (.int .i64 ((if bit then c else j-c:Nat):Int))):=fun w0=>vh bit j c (by omega) cj w0
   have i1:¬(j:Int)<0:=by omega
   have i2:¬(n:Int)<(j:Int):=by omega
   clear hP1 hP2 hck hl hg hr F a1 a4 a2 a5 i0 hc;generalize (if bit then c else j-c:Nat)=R at *;go_enter func78,ntmps78;go_wp2_with fail;rw[<-hW];refine mr (CC.out _ bW) fun w1 hb=>?_
   have bw1:=bg bW hb;replace B1:=B1.kept hb;clear hb CC hW bW;have q0:=B1.cell 0 rfl;have q1:=B1.cell 1 rfl;have q2:=B1.cell 2 rfl;have q3:=B1.cell 3 rfl;have q4:=B1.cell 4 rfl
   have q5:=B1.cell 5 rfl;have q6:=B1.cell 6 rfl;have q7:=B1.cell 7 rfl;go_wp2_with fail;refine mr (C2.out _ bw1) fun w2 hb=>?_;have bw2:=bg bw1 hb;clear hb;go_wp2_with fail
   refine mr (C3.out _) fun w3 h3=>?_;rw[h3];clear h3 w3;go_wp2;go_ret2;rw[E.out.1,E.out.2];exact⟨rfl,bw2⟩
theorem yO(cs:List Value)(a:bp)(bit:Bool)(k:Int)(w:World)(h:br w cs a)(hi:aD k):
  Qq 125 #[.agg cs.toArray,.bool bit,.int .i64 k] w (.tuple #[.int .i64 (gsX (kOk9 a) (kBN9 a) (kBX9 a) bit k),.int .i64 (gsE (kOk9 a) (kBN9 a) (kBX9 a) bit k)]):=by
 obtain⟨P1,hP1⟩:∃P:Int,Hid (P=gsX (kOk9 a) (kBN9 a) (kBX9 a) bit k):=⟨gsX (kOk9 a) (kBN9 a) (kBX9 a) bit k,(rfl:gsX (kOk9 a) (kBN9 a) (kBX9 a) bit k=gsX (kOk9 a) (kBN9 a) (kBX9 a) bit k)⟩
 obtain⟨P2,hP2⟩:∃P:Int,Hid (P=gsE (kOk9 a) (kBN9 a) (kBX9 a) bit k):=⟨gsE (kOk9 a) (kBN9 a) (kBX9 a) bit k,(rfl:gsE (kOk9 a) (kBN9 a) (kBX9 a) bit k=gsE (kOk9 a) (kBN9 a) (kBX9 a) bit k)⟩;rw[<-hP1.out,<-hP2.out]
 cases hk:kOk9 a with
 | false=>
  have CC:=iL h false hk
  have E:Hid (P1=0/\P2=2):=by
   show _/\_;rw[hP1.out,hP2.out];unfold gsX gsE;rw[hk];exact⟨rfl,rfl⟩
  obtain⟨⟨ao,cap,qo,dap,rfl,_⟩,_⟩:=h;obtain⟨N,M,k0,V,LM,xs,H,ys⟩:=a;dsimp only at *;clear hP1 hP2
  obtain⟨W,hW⟩:∃W,W=w.alloc (.cells #[.int .i64 N,.int .i64 M,.int .i64 k0,.int .i64 V,.int .i64 LM,.slice ao xs.length cap,.int .i64 H,.slice qo ys.length dap] 61):=⟨_,rfl⟩;have bW:=aY hW;have B1:=bj hW
  go_enter func125,ntmps125;go_wp2_with fail;rw[<-hW];refine mr (CC.out _ bW) fun w1 hb=>?_;have bw1:=bg bW hb;replace B1:=B1.kept hb;clear hb CC hW bW;go_wp2;go_ret2
  rw[E.out.1,E.out.2];exact⟨rfl,bw1⟩
 | true=>
  have CC:=iL h true hk;have hck:=k6 a hk;obtain⟨n,mm,kn,vn,hh,LM,xs,ys,rfl⟩:=kY a hk;obtain⟨F,hl,hg,hr⟩:=iV n mm kn vn hh LM xs ys hk
  have e1:kBN9 ⟨n,mm,kn,vn,LM,xs,hh,ys⟩=(n:Int):=by unfold kBN9;rw[if_pos hk]
  have e2:kBX9 ⟨n,mm,kn,vn,LM,xs,hh,ys⟩=rowOf n (isIn (kRow ⟨n,mm,kn,vn,LM,xs,hh,ys⟩)):=by unfold kBX9;rw[if_pos hk];rfl
  rw[e1,e2]at hck;rw[hk,e1,e2]at hP1;rw[hk,e1,e2]at hP2;generalize kRow ⟨n,mm,kn,vn,LM,xs,hh,ys⟩=l at *;obtain⟨⟨ao,cap,qo,dap,rfl,ir,a1,a2,a3,a4,a5,a6⟩,n3,xl,yl⟩:=h;dsimp only at *
  have nl:=F.hn;have ml:=F.hm;clear hk e1 e2 n3 xl yl ir
  obtain⟨W,hW⟩:∃W,W=w.alloc (.cells #[.int .i64 n,.int .i64 mm,.int .i64 kn,.int .i64 vn,.int .i64 LM,.slice ao xs.length cap,.int .i64 hh,.slice qo ys.length dap] 61):=⟨_,rfl⟩
  have bW:=aY hW;have B1:=bj hW
  have all:cB (rowOf n (isIn l)) bit n=if bit then mm else n-mm:=by
   unfold cB;rw[GU hr,hl]
  have IFF:=jS (n:Int) (rowOf n (isIn l)) bit k;rw[Int.toNat_natCast,all]at IFF
  have C3:Hid (∀w0,Qx 128 #[.bool bit,.int .i64 n,.int .i64 mm] w0 (.int .i64 ((if bit then mm else n-mm:Nat):Int))):=fun w0=>vh bit n mm nl ml w0
  obtain⟨R,hR⟩:∃R,Hid (R=if bit then mm else n-mm):=⟨_,rfl⟩;rw[<-hR.out]at IFF C3;have RR:R<=1048576:=by rw[hR.out];split<;>omega
  by_cases i0:k<0\/(R:Int)<=k
  .have E:Hid (P1=0/\P2=3):=by
    show _/\_
    have hn:cP (n:Int) (rowOf n (isIn l)) bit k=none:=by
     cases e:cP (n:Int) (rowOf n (isIn l)) bit k with
     | none=>rfl
     | some x=>
      rw[e]at IFF;have:=IFF.1 rfl;omega
    rw[hP1.out,hP2.out];unfold gsX gsE;rw[hn];exact⟨rfl,rfl⟩
   clear hP1 hP2 hck hl hg hr F a1 a4 a2 a5 IFF all;rcases i0 with i0 | i0
   .skip;go_enter func125,ntmps125;go_wp2_with fail;rw[<-hW];refine mr (CC.out _ bW) fun w1 hb=>?_;have bw1:=bg bW hb;replace B1:=B1.kept hb;clear hb CC hW bW
    have q0:=B1.cell 0 rfl;have q1:=B1.cell 1 rfl;go_wp2;go_ret2;rw[E.out.1,E.out.2];exact⟨rfl,bw1⟩
   .by_cases i1:k<0
    .skip;go_enter func125,ntmps125;go_wp2_with fail;rw[<-hW];refine mr (CC.out _ bW) fun w1 hb=>?_;have bw1:=bg bW hb;replace B1:=B1.kept hb;clear hb CC hW bW
     have q0:=B1.cell 0 rfl;have q1:=B1.cell 1 rfl;go_wp2;go_ret2;rw[E.out.1,E.out.2];exact⟨rfl,bw1⟩
    .skip;go_enter func125,ntmps125;go_wp2_with fail;rw[<-hW];refine mr (CC.out _ bW) fun w1 hb=>?_;have bw1:=bg bW hb;replace B1:=B1.kept hb;clear hb CC hW bW
     have q0:=B1.cell 0 rfl;have q1:=B1.cell 1 rfl;go_wp2_with fail;refine mr (C3.out _) fun w3 h3=>?_;rw[h3];clear h3 w3;go_wp2;go_ret2;rw[E.out.1,E.out.2];exact⟨rfl,bw1⟩
  .obtain⟨j,rfl⟩:=Int.eq_ofNat_of_zero_le (show 0<=k by omega);have jR:j<R:=by omega
   have C2:∃p:Nat,Hid (P1=(p:Int)/\P2=0)/\Hid (Qz w 173 #[.agg #[.int .i64 n,.int .i64 mm,.int .i64 kn,.int .i64 vn,.int .i64 LM,.slice ao xs.length cap,.int .i64 hh,.slice qo ys.length dap],.bool bit,.int .i64 j] (.int .i64 (p:Nat))):=by
    have key:∀p,cP (n:Int) (rowOf n (isIn l)) bit (j:Int)=some p->P1=(p:Int)/\P2=0:=fun p hp=>by
     rw[hP1.out,hP2.out];unfold gsX gsE;rw[hp];exact⟨rfl,rfl⟩
    cases bit with
    | true=>
     have hR':R=mm:=hR.out;obtain⟨b1,b2⟩:=GT hr j (by omega);have b3:=hr.1 j (by omega)
     refine⟨gt l j,key _ (nA _ _ _ _ _ (by rw[Int.toNat_natCast];exact b3) ?_),fun w0 hb=>Fx n mm kn vn hh LM ao xs cap qo ys dap l w0 F (a1.keep hb) a2 (a4.keep hb) a5 hl hg hr j (by omega)⟩
     unfold here cB;rw[b1,if_pos rfl,b2];simp
    | false=>
     have hR':R=n-mm:=hR.out;obtain⟨c,hc,b1,b2,b3⟩:=GS hr j (by rw[hl];omega)
     refine⟨j+c,key _ (nA _ _ _ _ _ (by rw[Int.toNat_natCast];exact b1) ?_),fun w0 hb=>Fy n mm kn vn hh LM ao xs cap qo ys dap l w0 F (a1.keep hb) a2 (a4.keep hb) a5 hl hg hr j (by omega) c hc⟩
     unfold here cB;rw[b2,if_neg (by simp),b3];simp
   obtain⟨p,E,C2⟩:=C2;have i1:¬(j:Int)<0:=by omega
   have i2:¬(R:Int)<=(j:Int):=by omega
   clear hP1 hP2 hck hl hg hr F a1 a4 a2 a5 i0 IFF all hR jR;go_enter func125,ntmps125;go_wp2_with fail;rw[<-hW];refine mr (CC.out _ bW) fun w1 hb=>?_;have bw1:=bg bW hb
   replace B1:=B1.kept hb;clear hb CC hW bW;have q0:=B1.cell 0 rfl;have q1:=B1.cell 1 rfl;have q2:=B1.cell 2 rfl;have q3:=B1.cell 3 rfl;have q4:=B1.cell 4 rfl;have q5:=B1.cell 5 rfl;have q6:=B1.cell 6 rfl
   have q7:=B1.cell 7 rfl;go_wp2_with fail;refine mr (C3.out _) fun w3 h3=>?_;rw[h3];clear h3 w3;go_wp2_with fail;refine mr (C2.out _ bw1) fun w2 hb=>?_;have bw2:=bg bw1 hb
   clear hb;go_wp2;go_ret2;rw[E.out.1,E.out.2];exact⟨rfl,bw2⟩
theorem oB:(prog.info? 61).map (·.size)=some 8:=by kernel_rfl
theorem FM(N:Int)(ao:Option Addr)(xs:List Nat)(cap:Nat)(w:World)(hx:Wd w ao xs)(hk:az N xs=false):
  Qq 53 #[.agg #[.int .i64 N,.slice ao xs.length cap]] w (.tuple #[.agg #[.int .i64 0,.int .i64 0,.int .i64 0,.int .i64 0,.int .i64 0,.slice none 0 0,.int .i64 0,.slice none 0 0],.int .i64 2]):=by
 have CC:Hid (Qz w 83 #[.agg #[.int .i64 N,.slice ao xs.length cap]] (.bool false)):=fun w0 hb=>by
  have:=cF N ao xs cap w0 (hx.keep hb);rw[hk]at this;exact this
 obtain⟨W1,hW1⟩:∃W1,W1=(w.alloc (.cells #[.int .i64 N,.slice ao xs.length cap] 53)).alloc (.cells #[.int .i64 0,.int .i64 0,.int .i64 0,.int .i64 0,.int .i64 0,.slice none 0 0,.int .i64 0,.slice none 0 0] 61):=⟨_,rfl⟩
 have b1:Below w.heap.size w W1:=by rw[hW1];exact((below_alloc w _).alloc (by simp only[World.size_alloc];omega) _)
 have c1:aa W1 (w.heap.size+1) [.int .i64 0,.int .i64 0,.int .i64 0,.int .i64 0,.int .i64 0,.slice none 0 0,.int .i64 0,.slice none 0 0] 61:=by rw[hW1];exact aa.new2 w _ _ _
 go_enter func53,ntmps53;go_wp2_with fail;rw[<-hW1];clear hW1 hx;refine mr (CC.out _ b1) fun wf hb=>?_;replace b1:=bg b1 hb;replace c1:=c1.kept hb;clear hb CC
 go_wp2_with (refine aU (w.heap.size+1) [.int .i64 0,.int .i64 0,.int .i64 0,.int .i64 0,.int .i64 0,.slice none 0 0,.int .i64 0,.slice none 0 0] [.int .i64 0,.int .i64 0,.int .i64 0,.int .i64 0,.int .i64 0,.slice none 0 0,.int .i64 0,.slice none 0 0] rfl rfl c1 rfl oB (by simp[Value.oneCell']) ?_)
 intro w3 B3 O3;have HZ:=aX (And.intro B3 (b1.trans (O3.below (Nat.le_succ _))));clear B3 O3 b1 c1;go_wp2
 (try simp only[Exit.inBlock,Exit.then]);exact bodyPost_ret (bF rfl (w.heap.size+1) _ rfl HZ.out.1 underlying61 oB) rfl ⟨rfl,HZ.out.2⟩
theorem FL(n:Nat)(ao:Option Addr)(xs:List Nat)(cap:Nat)(w:World)(m:Nat)(k V LM H:Int)(LX LY:List Nat)(xn yn:Nat)(hxn:xn=LX.length)(hyn:yn=LY.length)
  (CC:Hid (Qz w 83 #[.agg #[.int .i64 n,.slice ao xs.length cap]] (.bool true)))
  (CO:Hid (Qz w 92 #[.agg #[.int .i64 n,.slice ao xs.length cap],.int .i64 n] (.int .i64 m)))
  (CL:Hid (∀w0,Below w.heap.size w w0->Calls prog 93 #[.agg #[.int .i64 n,.slice ao xs.length cap],.int .i64 m] w0 fun e w'=>∃bo bc,e=.returned (.tuple #[.agg #[.int .i64 k,.int .i64 V,.int .i64 LM,.slice bo xn bc],.int .i64 0])/\Wd w' bo LX/\xn<=bc/\Below w0.heap.size w0 w'))
  (CH:Hid (∀w0,Below w.heap.size w w0->Calls prog 94 #[.agg #[.int .i64 n,.slice ao xs.length cap],.int .i64 m] w0 fun e w'=>∃qo qc,e=.returned (.tuple #[.agg #[.int .i64 H,.slice qo yn qc],.int .i64 0])/\Wd w' qo LY/\yn<=qc/\Below w0.heap.size w0 w')):
  Calls prog 53 #[.agg #[.int .i64 n,.slice ao xs.length cap]] w fun e w'=>∃bo bc qo qc,e=.returned (.tuple #[.agg #[.int .i64 n,.int .i64 m,.int .i64 k,.int .i64 V,.int .i64 LM,.slice bo xn bc,.int .i64 H,.slice qo yn qc],.int .i64 0])/\Wd w' bo LX/\xn<=bc/\Wd w' qo LY/\yn<=qc/\Below w.heap.size w w':=by
 have HX:=aX hxn;have HY:=aX hyn;clear hxn hyn
 obtain⟨W1,hW1⟩:∃W1,W1=(w.alloc (.cells #[.int .i64 n,.slice ao xs.length cap] 53)).alloc (.cells #[.int .i64 0,.int .i64 0,.int .i64 0,.int .i64 0,.int .i64 0,.slice none 0 0,.int .i64 0,.slice none 0 0] 61):=⟨_,rfl⟩
 have b1:Below w.heap.size w W1:=by rw[hW1];exact((below_alloc w _).alloc (by simp only[World.size_alloc];omega) _)
 have c0:aa W1 w.heap.size [.int .i64 n,.slice ao xs.length cap] 53:=by rw[hW1];exact(aa.new w _ _).alloc _
 have c1:aa W1 (w.heap.size+1) [.int .i64 0,.int .i64 0,.int .i64 0,.int .i64 0,.int .i64 0,.slice none 0 0,.int .i64 0,.slice none 0 0] 61:=by rw[hW1];exact aa.new2 w _ _ _
 go_enter func53,ntmps53;go_wp2_with fail;rw[<-hW1];clear hW1;refine mr (CC.out _ b1) fun wf hb=>?_;replace b1:=bg b1 hb;replace c0:=c0.kept hb;replace c1:=c1.kept hb;clear hb CC
 have q0:=c0.cell 0 rfl;have q1:=c0.cell 1 rfl;go_wp2_with fail;refine mr (CO.out _ b1) fun w2 hb=>?_;replace b1:=bg b1 hb;replace c0:=c0.kept hb;replace c1:=c1.kept hb;clear hb CO q0 q1
 have q0:=c0.cell 0 rfl;have q1:=c0.cell 1 rfl;go_wp2_with fail;refine(CL.out _ b1).mono ?_;rintro e w3 ⟨bo,bc,rfl,hX,hxc,hb⟩;replace b1:=bg b1 hb;replace c0:=c0.kept hb;replace c1:=c1.kept hb
 clear hb CL q0 q1;have bA:=below_alloc w3 (.cells #[.int .i64 k,.int .i64 V,.int .i64 LM,.slice bo xn bc] 57);have d5:=aa.new w3 [.int .i64 k,.int .i64 V,.int .i64 LM,.slice bo xn bc] 57;have d0:=c0.kept bA
 have d1:=c1.kept bA;have hX2:=hX.keep bA;have b2:=bg b1 bA;have q0:=d0.cell 0 rfl;have q1:=d0.cell 1 rfl;go_wp2_with fail;refine(CH.out _ b2).mono ?_;rintro e w4 ⟨qo,qc,rfl,hY,hyc,hb⟩
 replace b2:=bg b2 hb;replace d0:=d0.kept hb;replace d1:=d1.kept hb;replace d5:=d5.kept hb;replace hX2:=hX2.keep hb;clear hb CH q0 q1 bA b1 c0 c1 hX
 have bA:=below_alloc w4 (.cells #[.int .i64 H,.slice qo yn qc] 53);have e7:=aa.new w4 [.int .i64 H,.slice qo yn qc] 53;have e0:=d0.kept bA;have e1:=d1.kept bA;have e5:=d5.kept bA;have hX3:=hX2.keep bA
 have hY3:=hY.keep bA;have b3:=bg b2 bA;have q0:=e0.cell 0 rfl;clear bA d0 d1 d5 hX2 hY b2;have ne1:=hX3.apart e1 (by intro v hv n;simp at hv;rcases hv with rfl | rfl | rfl | rfl<;>simp)
 have ne2:=hY3.apart e1 (by intro v hv n;simp at hv;rcases hv with rfl | rfl | rfl | rfl<;>simp);generalize w3.heap.size=g5 at *
 go_wp2_with (first | refine gm g5 _ rfl e5 underlying57 mB ?_ | refine gm w4.heap.size _ rfl e7 underlying53 ja ?_ | refine aU (w.heap.size+1) [.int .i64 0,.int .i64 0,.int .i64 0,.int .i64 0,.int .i64 0,.slice none 0 0,.int .i64 0,.slice none 0 0] [.int .i64 n,.int .i64 m,.int .i64 k,.int .i64 V,.int .i64 LM,.slice bo xn bc,.int .i64 H,.slice qo yn qc] rfl rfl e1 rfl oB (by simp[Value.oneCell']) ?_)
 intro w5 B3 O3;have HZ:=aX (And.intro B3 (And.intro (O3.wd hX3 ne1) (And.intro (O3.wd hY3 ne2) (b3.trans (O3.below (Nat.le_succ _))))));clear B3 O3 hX3 hY3 b3 e0 e1 e5 e7 ne1 ne2;go_wp2
 (try simp only[Exit.inBlock,Exit.then]);exact bodyPost_ret (bF rfl (w.heap.size+1) _ rfl HZ.out.1 underlying61 oB) rfl ⟨bo,bc,qo,qc,rfl,HZ.out.2.1,hxc,HZ.out.2.2.1,hyc,HZ.out.2.2.2⟩
theorem Il(N:Int)(ao:Option Addr)(xs:List Nat)(cap:Nat)(w:World)(hN:aD N)(hx:Wd w ao xs)(hf:aA xs)(hcap:xs.length<=cap)(hl:N<=3000/\xs.length<=1048576):
  Calls prog 53 #[.agg #[.int .i64 N,.slice ao xs.length cap]] w fun e w'=>∃cs:List Value,e=.returned (.tuple #[.agg cs.toArray,.int .i64 (kE9 N xs)])/\br w' cs (kB9 N xs)/\Below w.heap.size w w':=by
 have z:aD 0:=⟨by decide,by decide⟩;cases hk:az N xs with
 | false=>
  refine mr (FM N ao xs cap w hx hk) fun w' hb=>?_;have e1:kE9 N xs=2:=by unfold kE9;rw[hk];rfl
  have e2:kB9 N xs=⟨0,0,0,0,0,[],0,[]⟩:=by unfold kB9;rw[hk];rfl
  rw[e1,e2];have f0:aA []:=fun i=>by unfold gt;simp
  exact⟨_,rfl,⟨⟨none,0,none,0,rfl,⟨z,z,z,z,z,z⟩,cm _ _,f0,Nat.le_refl _,cm _ _,f0,Nat.le_refl _⟩,by decide,by simp,by simp⟩,hb⟩
 | true=>
  obtain⟨u1,u2,u3,u4⟩:=bn _ _ hk;obtain⟨n,rfl⟩:=Int.eq_ofNat_of_zero_le u1;have hn:n<=3000:=by omega
  obtain⟨L,hL⟩:∃L,L=plc (bitAt xs) n:=⟨_,rfl⟩;obtain⟨v,hv⟩:∃v,v=wdF n L.length:=⟨_,rfl⟩;have RS:bi L n:=by rw[hL];exact iz _ _
  have mn:=RS.len;have v20:v<=20:=by rw[hv];exact fP n _ (by omega)
  have e1:kE9 (n:Int) xs=0:=by unfold kE9;rw[hk];rfl
  have e2:kB9 (n:Int) xs=⟨n,L.length,(loP L v).length,(max v 1:Nat),((loP L v).length:Int)*(max v 1:Nat),mkS (loP L v) (max v 1) (loP L v).length,hiN L n v,rowOf (hiN L n v) (isIn (hiP L v))⟩:=by
   unfold kB9;rw[if_pos hk,Int.toNat_natCast,<-hL];unfold aG;rw[<-hv]
  have CC:Hid (Qz w 83 #[.agg #[.int .i64 n,.slice ao xs.length cap]] (.bool true)):=fun w0 hb=>by
   have:=cF n ao xs cap w0 (hx.keep hb);rw[hk]at this;exact this
  have CO:Hid (Qz w 92 #[.agg #[.int .i64 n,.slice ao xs.length cap],.int .i64 n] (.int .i64 (L.length:Nat))):=fun w0 hb=>by
   have:=wn n ao xs cap n w0 (hx.keep hb) hf hcap
   have on:onesI (n:Int) xs (n:Int)=(L.length:Int):=by
    rw[hL,tq];unfold onesI;rw[hk,show min (n:Int) (n:Int)=(n:Int)by omega,Int.toNat_natCast];rfl
   rw[on]at this;exact this
  have CL:Hid (∀w0,Below w.heap.size w w0->Calls prog 93 #[.agg #[.int .i64 n,.slice ao xs.length cap],.int .i64 (L.length:Nat)] w0 fun e w'=>∃bo bc,e=.returned (.tuple #[.agg #[.int .i64 ((loP L v).length:Nat),.int .i64 (max v 1:Nat),.int .i64 (((loP L v).length:Int)*(max v 1:Nat)),.slice bo (mkS (loP L v) (max v 1) (loP L v).length).length bc],.int .i64 0])/\Wd w' bo (mkS (loP L v) (max v 1) (loP L v).length)/\(mkS (loP L v) (max v 1) (loP L v).length).length<=bc/\Below w0.heap.size w0 w'):=fun w0 hb=>by
   by_cases c:v=0
   .refine(FE n ao xs cap w0 L.length hn mn (by rw[<-hv];exact c)).mono ?_;rintro e w' ⟨bo,bc,rfl,hb2⟩;subst c;have e3:loP L 0=[]:=rfl;have e4:mkS [] 1 0=[]:=by unfold mkS;rfl
    rw[e3];exact⟨bo,bc,rfl,cm _ _,Nat.zero_le _,hb2⟩
   .refine(FD n ao xs cap w0 (hx.keep hb) hf hk hn L hL L.length v rfl hv (by omega)).mono ?_;rintro e w' ⟨g,k,rfl,hk2,hO,hb2⟩;have e3:(loP L v).length=L.length:=iZ L v (by omega)
    have e4:max v 1=v:=by omega
    rw[e3,e4];exact⟨some ⟨g,0,none⟩,k,by rw[hk2],hO.wd,by rw[hk2];exact Nat.le_refl _,hb2⟩
  have CH:Hid (∀w0,Below w.heap.size w w0->Calls prog 94 #[.agg #[.int .i64 n,.slice ao xs.length cap],.int .i64 (L.length:Nat)] w0 fun e w'=>∃qo qc,e=.returned (.tuple #[.agg #[.int .i64 (hiN L n v:Nat),.slice qo (rowOf (hiN L n v) (isIn (hiP L v))).length qc],.int .i64 0])/\Wd w' qo (rowOf (hiN L n v) (isIn (hiP L v)))/\(rowOf (hiN L n v) (isIn (hiP L v))).length<=qc/\Below w0.heap.size w0 w'):=fun w0 hb=>by
   refine(FH n ao xs cap w0 (hx.keep hb) hf hk hn L hL L.length v (hiN L n v) ((hiN L n v+63)/64) rfl hv rfl rfl).mono ?_;rintro e w' ⟨g,rfl,hO,_,hb2⟩
   exact⟨some ⟨g,0,none⟩,_,by rw[cM],hO.wd,by rw[cM];exact Nat.le_refl _,hb2⟩
  refine(FL n ao xs cap w L.length _ _ _ _ _ _ _ _ rfl rfl CC CO CL CH).mono ?_;rintro e w' ⟨bo,bc,qo,qc,rfl,p1,p2,p3,p4,hb⟩;rw[e1,e2];have l1:=mp L v;have hE:n/2^v<=n:=Nat.div_le_self _ _
  have l2:hiN L n v<=6001:=by unfold hiN;omega
  have l3:(loP L v).length*max v 1<=3000*20:=Nat.mul_le_mul (by omega) (by omega);have l4:(mkS (loP L v) (max v 1) (loP L v).length).length<=1048576:=by rw[iY];omega
  have l5:(rowOf (hiN L n v) (isIn (hiP L v))).length<=1048576:=by rw[cM];omega
  have i1:aD (n:Int):=⟨by omega,by omega⟩;have i2:aD (L.length:Int):=⟨by omega,by omega⟩;have i3:aD ((loP L v).length:Int):=⟨by omega,by omega⟩;have i5:aD ((max v 1:Nat):Int):=⟨by omega,by omega⟩
  have i6:aD (hiN L n v:Int):=⟨by omega,by omega⟩
  have i4:aD (((loP L v).length:Int)*(max v 1:Nat)):=by
   rw[<-Int.natCast_mul];exact⟨by omega,by omega⟩
  exact⟨_,rfl,⟨⟨bo,bc,qo,qc,rfl,⟨i1,i2,i3,i5,i4,i6⟩,p1,mF _ _ _,p2,p3,cO _ _,p4⟩,hl.1,l4,l5⟩,hb⟩
end Go.Proofs.YtleegaihbgbcjabGreatDoor
namespace Go.Proofs.YtleegaihbgbcjabGreatDoor
open Go.ChangeShapes Go.WideShapes Go.ChangeAt Go.RowKit Go.Joins Go.Deep Num Bit
theorem pb{H:Type}{enc:TypeId×Value->H}{P:Program}{w:World}{base:Nat}{spare:Nat->Bool}{held:Bool}{t:TypeId}{f0 f1 f2 f3:Field}{fuel:Nat}{cs:List Value}{x:DataW H×List MemPlace}(ht:P.underlying t=some (.struct #[f0,f1,f2,f3]))(h:DataW.trod enc P w base spare held fuel t cs=some x):
  ∃y0 y1 y2 y3 n,DataW.trod enc P w base spare held n f0.type ((cs.drop f0.offset).take (P.cellsOf f0.type))=some y0/\
   DataW.trod enc P w base spare held n f1.type ((cs.drop f1.offset).take (P.cellsOf f1.type))=some y1/\DataW.trod enc P w base spare held n f2.type ((cs.drop f2.offset).take (P.cellsOf f2.type))=some y2/\
   DataW.trod enc P w base spare held n f3.type ((cs.drop f3.offset).take (P.cellsOf f3.type))=some y3:=by
 obtain⟨xs,n,_,rfl,hl,hlen,hf⟩:=DataW.trod_struct ht h;match xs,hlen with
 | [y0,y1,y2,y3],_=>exact⟨y0,y1,y2,y3,n,by simpa using hf 0 f0 rfl,by simpa using hf 1 f1 rfl,by simpa using hf 2 f2 rfl,by simpa using hf 3 f3 rfl⟩
theorem uH(N:Int)(xs:List Nat)(hf:aA xs)(hk:az N xs=true)(hN:N<=3000):kOk9 (kB9 N xs)=true/\kBN9 (kB9 N xs)=N/\kBX9 (kB9 N xs)=xs:=by
 obtain⟨h0,h1,_,_⟩:=bn N xs hk;obtain⟨n,rfl⟩:=Int.eq_ofNat_of_zero_le h0;have hn:n<=3000:=by omega
 obtain⟨L,hL⟩:∃L,L=plc (bitAt xs) n:=⟨_,rfl⟩;have RS:bi L n:=by rw[hL];exact iz _ _
 have mn:=RS.len;have v20:=fP n L.length (by omega)
 have e:kB9 (n:Int) xs=aG n L:=by
  unfold kB9;rw[if_pos hk,Int.toNat_natCast,<-hL]
 have hE:n/2^wdF n L.length<=n:=Nat.div_le_self _ _
 have hrow:dm (aG n L)=some L:=by
  refine Gz RS (by omega) (by unfold hiN;omega) ?_;have l1:=mp L (wdF n L.length);have l3:(loP L (wdF n L.length)).length*max (wdF n L.length) 1<=3000*20:=Nat.mul_le_mul (by omega) (by omega);omega
 have ok:kOk9 (aG n L)=true:=by
  unfold kOk9;rw[hrow];exact(qH _ _).2 rfl
 rw[e];refine⟨ok,?_,?_⟩
 .unfold kBN9;rw[if_pos ok];rfl
 .unfold kBX9 kRow;rw[if_pos ok,hrow];show rowOf n (isIn L)=xs;have hy:=ke (n:Int) xs hf hk;rw[Int.toNat_natCast]at hy
  rw[cU n _ (bitAt xs) fun j hj=>by rw[hL,uM,decide_eq_true hj,Bool.true_and]];exact hy.symm
theorem EU(N:Int)(xs:List Nat)(hk:az N xs=true):kE9 N xs=0:=by unfold kE9;rw[hk];rfl
theorem EP(n:Nat)(xs:List Nat)(hf:aA xs)(hk:az (n:Int) xs=true)(hn:n<=3000):64<kZ9 (kB9 n xs)/\kZ9 (kB9 n xs)<=2*(n:Int)+65:=by
 have ok:=(uH n xs hf hk (by omega)).1;obtain⟨L,hL⟩:∃L,L=plc (bitAt xs) n:=⟨_,rfl⟩;have RS:bi L n:=by rw[hL];exact iz _ _
 have mn:=RS.len
 have e:kB9 (n:Int) xs=aG n L:=by
  unfold kB9;rw[if_pos hk,Int.toNat_natCast,<-hL]
 rw[e]at ok⊢;unfold kZ9;rw[if_pos ok]
 show 64<((loP L (wdF n L.length)).length:Int)*(max (wdF n L.length) 1:Nat)+(hiN L n (wdF n L.length):Int)+64/\((loP L (wdF n L.length)).length:Int)*(max (wdF n L.length) 1:Nat)+(hiN L n (wdF n L.length):Int)+64<=2*(n:Int)+65
 rw[<-Int.natCast_mul];have hE:n/2^wdF n L.length<=n:=Nat.div_le_self _ _
 have key:(loP L (wdF n L.length)).length*max (wdF n L.length) 1+L.length<=n:=by
  by_cases c:wdF n L.length=0
  .rw[c,show loP L 0=[]from rfl];simpa using mn
  .rw[iZ L _ (by omega),show max (wdF n L.length) 1=wdF n L.length by omega];have m0:L.length≠0:=fun e=>c (by unfold wdF;rw[if_pos e]);have d1:1<=n/L.length:=Nat.div_pos mn (by omega)
   obtain⟨p,hp,p1,p2,p3,_⟩:=qd ((n/L.length:Nat):Int) (by omega) (by have:=Nat.div_le_self n L.length;omega) (by omega)
   have hw:wdF n L.length=p-1:=by
    unfold wdF;rw[if_neg m0];unfold bI at hp;rw[Int.toNat_natCast]at hp;omega
   have h2:2^(p-1)<=n/L.length:=by
    clear hp hw;generalize n/L.length=dd at *;have e1:(dd:Int)/2^(p-1)=((dd/2^(p-1):Nat):Int):=by rw[Int.natCast_ediv,Int.natCast_pow];rfl
    rw[e1]at p3;refine Nat.le_of_not_lt fun h=>?_;rw[Nat.div_eq_of_lt h]at p3;cases p3
   have h3:p-1+1<=2^(p-1):=Nat.lt_two_pow_self;have h4:L.length*(p-1+1)<=L.length*(n/L.length):=Nat.mul_le_mul_left _ (by omega);have h5:L.length*(n/L.length)<=n:=Nat.mul_div_le n L.length
   rw[hw];rw[Nat.mul_add,Nat.mul_one]at h4;omega
 unfold hiN;generalize (loP L (wdF n L.length)).length*max (wdF n L.length) 1=q at *;generalize n/2^wdF n L.length=r at *;omega
open Go.ChangeShapes Go.WideShapes Go.ChangeAt Go.RowKit Go.Joins Go.Deep Num Bit Bn
theorem qq(N:Int)(xs:List Nat)(h:kE7 N xs=0):kB 1 N xs=⟨1,kB7 N xs,n8,n9⟩:=by
 have e:kE 1 N xs=0:=h;unfold kB;rw[if_pos e];rfl
theorem qp(N:Int)(xs:List Nat)(h:kE8 N xs=0):kB 2 N xs=⟨2,n7,kB8 N xs,n9⟩:=by
 have e:kE 2 N xs=0:=h;unfold kB;rw[if_pos e];rfl
theorem my(N:Int)(xs:List Nat)(h:kE9 N xs=0):kB 3 N xs=⟨3,n7,n8,kB9 N xs⟩:=by
 have e:kE 3 N xs=0:=h;unfold kB;rw[if_pos e];rfl
theorem mx(k N:Int)(xs:List Nat)(h:kE k N xs≠0):kB k N xs=⟨0,n7,n8,n9⟩:=by
 unfold kB;rw[if_neg h]
theorem Cu(p:cd):kOn ⟨1,p,n8,n9⟩=1:=by
 have:cD ⟨1,p,n8,n9⟩=true:=rfl;unfold kOn;rw[if_pos this]
theorem Ct(r:aP):kOn ⟨2,n7,r,n9⟩=2:=by
 have:cD ⟨2,n7,r,n9⟩=true:=rfl;unfold kOn;rw[if_pos this]
theorem tD(f:bp):kOn ⟨3,n7,n8,f⟩=3:=by
 have:cD ⟨3,n7,n8,f⟩=true:=rfl;unfold kOn;rw[if_pos this]
theorem E5(k N:Int)(xs:List Nat)(h1:1<=k)(h3:k<=3)(hf:aA xs)(hk:az N xs=true)(hN:N<=3000):aJ (kB k N xs)=true/\kBN (kB k N xs)=N/\aI (kB k N xs)=xs:=by
 have e0:=mv k N xs h1 h3 hk;have h:k=1\/k=2\/k=3:=by omega
 rcases h with rfl | rfl | rfl
 .rw[qq N xs e0];obtain⟨e1,e2,e3,_⟩:=fD (Cu (kB7 N xs));obtain⟨g1,g2,g3⟩:=EZ N xs hk;exact⟨e1.trans g1,e2.trans g2,e3.trans g3⟩
 .rw[qp N xs e0];obtain⟨e1,e2,e3,_⟩:=fB (Ct (kB8 N xs));obtain⟨g1,g2,g3⟩:=uI N xs hf hk;exact⟨e1.trans g1,e2.trans g2,e3.trans g3⟩
 .rw[my N xs e0];obtain⟨e1,e2,e3,_⟩:=fk (tD (kB9 N xs));obtain⟨g1,g2,g3⟩:=uH N xs hf hk hN;exact⟨e1.trans g1,e2.trans g2,e3.trans g3⟩
theorem Hx:prog.cellsOf 61=8:=by kernel_rfl
theorem I9{cs:Array Value}(h:cs.size=22):∃c0 c1 c2 c3 c4 c5 c6 c7 c8 c9 c10 c11 c12 c13 c14 c15 c16 c17 c18 c19 c20 c21,cs=#[c0,c1,c2,c3,c4,c5,c6,c7,c8,c9,c10,c11,c12,c13,c14,c15,c16,c17,c18,c19,c20,c21]:=by
 obtain⟨l⟩:=cs;match l,h with
 | [c0,c1,c2,c3,c4,c5,c6,c7,c8,c9,c10,c11,c12,c13,c14,c15,c16,c17,c18,c19,c20,c21],_=>exact⟨c0,c1,c2,c3,c4,c5,c6,c7,c8,c9,c10,c11,c12,c13,c14,c15,c16,c17,c18,c19,c20,c21,rfl⟩
theorem Cm{H:Type}{enc:TypeId×Value->H}{W:World}{n:Nat}{c0 c1 c2 c3:Value}{y:DataW H×List MemPlace}(hf:DataW.trod enc prog W 0 (fun _=>true) true n 55 [c0,c1,c2,c3]=some y):∃a:cd,fe W [c0,c1,c2,c3] a:=by
 obtain⟨y0,y1,y2,n,hx,_,h0,h1,h2⟩:=trod_struct3 underlying55 hf;have g0:DataW.trod enc prog W 0 (fun _=>true) true n 53 [c0,c1]=some y0:=by simpa [Tryz.cells53]using h0
 have g1:DataW.trod enc prog W 0 (fun _=>true) true n 25 [c2]=some y1:=by simpa [Tryz.cells25,Tryz.cells53]using h1
 have g2:DataW.trod enc prog W 0 (fun _=>true) true n 25 [c3]=some y2:=by simpa [Tryz.cells25,Tryz.cells53]using h2
 obtain⟨N,ao,xs,cap,rfl,rfl,hN,a1,a2,a3⟩:=nI g0;obtain⟨so,su,sc,rfl,u1,u2,u3⟩:=l_ g1;obtain⟨tO,sb,tc,rfl,v1,v2,v3⟩:=l_ g2
 exact⟨⟨N,xs,su,sb⟩,ao,cap,so,sc,tO,tc,rfl,⟨hN,a1,a2,a3,u1,u2,u3,v1,v2,v3⟩⟩
theorem Cl{H:Type}{enc:TypeId×Value->H}{W:World}{n:Nat}{c0 c1 c2 c3 c4 c5 c6 c7 c8:Value}{y:DataW H×List MemPlace}(hf:DataW.trod enc prog W 0 (fun _=>true) true n 59 [c0,c1,c2,c3,c4,c5,c6,c7,c8]=some y):∃a:aP,eO W [c0,c1,c2,c3,c4,c5,c6,c7,c8] a:=by
 obtain⟨y0,y1,y2,y3,y4,n,h0,h1,h2,h3,h4⟩:=xT underlying59 hf;have g0:DataW.trod enc prog W 0 (fun _=>true) true n 3 [c0]=some y0:=by simpa [Tryz.cells3]using h0
 have g1:DataW.trod enc prog W 0 (fun _=>true) true n 57 [c1,c2,c3,c4]=some y1:=by simpa [vX]using h1
 have g2:DataW.trod enc prog W 0 (fun _=>true) true n 53 [c5,c6]=some y2:=by simpa [Tryz.cells53]using h2
 have g3:DataW.trod enc prog W 0 (fun _=>true) true n 25 [c7]=some y3:=by simpa [Tryz.cells25]using h3
 have g4:DataW.trod enc prog W 0 (fun _=>true) true n 25 [c8]=some y4:=by simpa [Tryz.cells25]using h4
 obtain⟨N,rfl,hN⟩:=iU g0;obtain⟨k,V,M,ao,xs,cap,rfl,rfl,rfl,rfl,hk,hV,hM,a1,a2,a3⟩:=tC g1;obtain⟨L,qo,ys,dap,rfl,rfl,hL,b1,b2,b3⟩:=nI g2
 obtain⟨so,S,sc,rfl,u1,u2,u3⟩:=l_ g3;obtain⟨tO,T,tc,rfl,v1,v2,v3⟩:=l_ g4
 exact⟨⟨N,k,V,M,xs,L,ys,S,T⟩,ao,cap,qo,dap,so,sc,tO,tc,rfl,⟨hN,hk,hV,hM,hL,u2,v2⟩,a1,a2,a3,b1,b2,b3,u1,u3,v1,v3⟩
theorem Co{H:Type}{enc:TypeId×Value->H}{W:World}{n:Nat}{c0 c1 c2 c3 c4 c5 c6 c7:Value}{y:DataW H×List MemPlace}(hf:DataW.trod enc prog W 0 (fun _=>true) true n 61 [c0,c1,c2,c3,c4,c5,c6,c7]=some y):∃a:bp,fd W [c0,c1,c2,c3,c4,c5,c6,c7] a:=by
 obtain⟨y0,y1,y2,y3,n,h0,h1,h2,h3⟩:=pb underlying61 hf;have g0:DataW.trod enc prog W 0 (fun _=>true) true n 3 [c0]=some y0:=by simpa [Tryz.cells3]using h0
 have g1:DataW.trod enc prog W 0 (fun _=>true) true n 3 [c1]=some y1:=by simpa [Tryz.cells3]using h1
 have g2:DataW.trod enc prog W 0 (fun _=>true) true n 57 [c2,c3,c4,c5]=some y2:=by simpa [vX]using h2
 have g3:DataW.trod enc prog W 0 (fun _=>true) true n 53 [c6,c7]=some y3:=by simpa [Tryz.cells53]using h3
 obtain⟨N,rfl,hN⟩:=iU g0;obtain⟨M,rfl,hM⟩:=iU g1;obtain⟨k,V,LM,ao,xs,cap,rfl,rfl,rfl,rfl,hk,hV,hLM,a1,a2,a3⟩:=tC g2;obtain⟨H',qo,ys,dap,rfl,rfl,hH,b1,b2,b3⟩:=nI g3
 exact⟨⟨N,M,k,V,LM,xs,H',ys⟩,ao,cap,qo,dap,rfl,⟨hN,hM,hk,hV,hLM,hH⟩,a1,a2,a3,b1,b2,b3⟩
end Go.Proofs.YtleegaihbgbcjabGreatDoor
namespace Go.Proofs.YtleegaihbgbcjabGreatDoor
open Go.RowKit Num Bit
theorem qJ(l:List Bool)(b:Bool)(i:Nat)(h:i<l.length):Sh.ct b l (i+1)=Sh.ct b l i+(bt l i==b).toNat:=by
 unfold Sh.ct;rw[List.take_add_one,List.filter_append,List.length_append,List.getElem?_eq_getElem h];unfold bt;rw[List.getD_eq_getElem?_getD,List.getElem?_eq_getElem h];cases e:(l[i]==b)<;>simp[e]
theorem qQ(l:List Bool):∀i,i<=l.length->cntB (aC l) i=Sh.ct true l i
 | 0,_=>by simp[cntB,Sh.ct]
 | i+1,h=>by
  rw[cntB,qQ l i (by omega),qJ l true i (by omega)];unfold aC;rw[eM,decide_eq_true (show i<l.length by omega),Bool.true_and];cases bt l i<;>rfl
theorem qO(l:List Bool):∀i,i<=l.length->Sh.ct true l i+Sh.ct false l i=i
 | 0,_=>by simp[Sh.ct]
 | i+1,h=>by
  have:=qO l i (by omega);rw[qJ l true i (by omega),qJ l false i (by omega)];cases bt l i<;>simp<;>omega
theorem qX(l:List Bool)(b:Bool)(i:Nat)(h:i<=l.length):cB (aC l) b i=Sh.ct b l i:=by
 unfold cB;rw[qQ l i h];have:=qO l i h;cases b
 .simp;omega
 .simp
theorem E8{k:Int}(hk:1<=k/\k<=3)(l:List Bool)(h:l.length<=3000):aJ (kB k (l.length:Int) (aC l))=true/\kBN (kB k (l.length:Int) (aC l))=(l.length:Int)/\aI (kB k (l.length:Int) (aC l))=aC l:=E5 k _ _ hk.1 hk.2 (cO _ _) (fm _ _ (by omega)) (by omega)
theorem rj(l:List Bool)(i:Nat)(b:Bool)(h:l[i]?=some b):bitAt (aC l) i=b:=by
 unfold aC
 have hi:i<l.length:=by
  by_cases g:i<l.length
  .exact g
  .rw[List.getElem?_eq_none (by omega)]at h;cases h
 rw[eM,decide_eq_true hi,Bool.true_and];unfold bt;rw[List.getD_eq_getElem?_getD,h];rfl
theorem aR{ops:Array Oper}{rest:List Oper}{d:Option Tmp}{ty T:TypeId}{ps:String}{af:Array Edge}{gd:Option (Nat×Bool)}{a:Act}{w:World}{Q:Exit->Act->World->Prop}{x:Operand}
  (g o:Nat) (cs:List Value) {fs:Array Field} (hwn:Region.wanted (⟨d,.load T x,ty,ps,af,gd⟩:Oper) (yielded ops a.tmps)=true) (hx:a.eval x=.pointer (some ⟨g,o,none⟩)) (hc:w.rangeAt g o cs) (hu:prog.underlying T=some (.struct fs)) (hi:(prog.info? T).map (·.size)=some cs.length)
  (h:wpList prog ops Q rest (a.put d (.agg cs.toArray)) w):
  wpList prog ops Q (⟨d,.load T x,ty,ps,af,gd⟩::rest) a w:=
 wpList_step fun K hK=>by
  rw[if_pos hwn];exact wp_load_mid T x rfl g o hx cs _ hc hu rfl hi (hK _ _ h)
theorem aa.part{w:World}{b:Nat}{T:TypeId}(pre cs post:List Value)(h:aa w b (pre++(cs++post)) T):w.rangeAt b pre.length cs:=fun j v hv=>by
 refine h.cell (pre.length+j) ?_;have hj:j<cs.length:=(List.getElem?_eq_some_iff.1 hv).1;rw[List.getElem?_append_right (by omega),List.getElem?_append_left (by omega),show pre.length+j-pre.length=j by omega]
 exact hv
theorem yY(w:World)(N:Int)(ao:Option Addr)(n cap:Nat)(T:TypeId):rx (w.alloc (.cells #[.int .i64 N,.slice ao n cap] T)) w.heap.size [(N,n)]:=by
 have hc:=aa.new w [.int .i64 N,.slice ao n cap] T;refine⟨hc.lt,fun i hi=>?_⟩;have hi:i<1:=hi;obtain rfl:i=0:=by omega
 exact⟨hc.cell 0 rfl,ao,cap,hc.cell 1 rfl⟩
theorem sB(w:World)(N:Int)(ao:Option Addr)(n cap:Nat)(M:Int)(bo:Option Addr)(m dap:Nat)(T:TypeId):rx (w.alloc (.cells #[.int .i64 N,.slice ao n cap,.int .i64 M,.slice bo m dap] T)) w.heap.size [(N,n),(M,m)]:=by
 have hc:=aa.new w [.int .i64 N,.slice ao n cap,.int .i64 M,.slice bo m dap] T;refine⟨hc.lt,fun i hi=>?_⟩;have hi:i<2:=hi;have:i=0\/i=1:=by omega
 rcases this with rfl | rfl
 .exact⟨hc.cell 0 rfl,ao,cap,hc.cell 1 rfl⟩
 .exact⟨hc.cell 2 rfl,bo,dap,hc.cell 3 rfl⟩
theorem Db(cs:List Value)(a:cd)(w:World)(h:fe w cs a):
  Qq 96 #[.agg cs.toArray] w (.bool (z7 a)):=by
 obtain⟨ao,cap,so,sc,tO,tc,rfl, -⟩:=h;obtain⟨N,xs,S,T⟩:=a;dsimp only;obtain⟨Z,hZ⟩:∃Z,Hid (Z=z7 ⟨N,xs,S,T⟩):=⟨_,rfl⟩;rw[<-hZ.out]
 obtain⟨W,hW⟩:∃W,W=(w.alloc (.cells #[.int .i64 N,.slice ao xs.length cap,.slice so S.length sc,.slice tO T.length tc] 55)).alloc (.cells #[.int .i64 N,.slice ao xs.length cap] 53):=⟨_,rfl⟩;have bW:=db hW
 have R:Hid (∀w0:World,w0=W->Qq 151 #[.slice (some ⟨w.heap.size+1,0,none⟩) 1 1] w0 (.bool (norw [(N,xs.length)]))):=fun w0 g=>by
  subst g;refine pS _ 1 [(N,xs.length)] w0 ?_ (by simp);have hx:=yY (w.alloc (.cells #[.int .i64 N,.slice ao xs.length cap,.slice so S.length sc,.slice tO T.length tc] 55)) N ao xs.length cap 53
  rw[show(w.alloc (.cells #[.int .i64 N,.slice ao xs.length cap,.slice so S.length sc,.slice tO T.length tc] 55)).heap.size=w.heap.size+1 by simp]at hx;rw[hW];exact hx
 subst hW;cases hn:norw [(N,xs.length)]with
 | false=>
  have E:Hid (Z=false):=by
   show Z=_;rw[hZ.out];unfold z7;simp[hn]
  clear hZ;rw[hn]at R;go_enter func96,ntmps96;go_wp2_with fail;refine mr (R.out _ (by rfl)) fun w1 hb=>?_
  have g0:=((aa.new w [.int .i64 N,.slice ao xs.length cap,.slice so S.length sc,.slice tO T.length tc] 55).kept (below_alloc _ _)).kept hb;have g1:=g0.cell 2 rfl;have g2:=g0.cell 3 rfl;clear g0
  replace hb:=bg bW hb;go_wp2;go_ret;rw[E.out];exact⟨rfl,hb⟩
 | true=>
  by_cases qS:(S.length:Int)=0;rotate_left
  .have dS:((S.length:Int)==0)=false:=beq_eq_false_iff_ne.2 qS
   have E:Hid (Z=false):=by
    show Z=_;rw[hZ.out];unfold z7;simp[hn,show ¬S=[]from fun e=>qS (by rw[e];rfl)]
   clear hZ;rw[hn]at R;go_enter func96,ntmps96;go_wp2_with fail;refine mr (R.out _ (by rfl)) fun w1 hb=>?_
   have g0:=((aa.new w [.int .i64 N,.slice ao xs.length cap,.slice so S.length sc,.slice tO T.length tc] 55).kept (below_alloc _ _)).kept hb;have g1:=g0.cell 2 rfl;have g2:=g0.cell 3 rfl;clear g0
   replace hb:=bg bW hb;go_wp2;go_ret;rw[E.out];exact⟨rfl,hb⟩
  have dS:((S.length:Int)==0)=true:=by simp only[qS];rfl
  by_cases qT:(T.length:Int)=0;rotate_left
  .have dT:((T.length:Int)==0)=false:=beq_eq_false_iff_ne.2 qT
   have E:Hid (Z=false):=by
    show Z=_;rw[hZ.out];unfold z7;simp[hn,show S=[]from List.eq_nil_of_length_eq_zero (by omega),show ¬T=[]from fun e=>qT (by rw[e];rfl)]
   clear hZ;rw[hn]at R;go_enter func96,ntmps96;go_wp2_with fail;refine mr (R.out _ (by rfl)) fun w1 hb=>?_
   have g0:=((aa.new w [.int .i64 N,.slice ao xs.length cap,.slice so S.length sc,.slice tO T.length tc] 55).kept (below_alloc _ _)).kept hb;have g1:=g0.cell 2 rfl;have g2:=g0.cell 3 rfl;clear g0
   replace hb:=bg bW hb;go_wp2;go_ret;rw[E.out];exact⟨rfl,hb⟩
  have dT:((T.length:Int)==0)=true:=by simp only[qT];rfl
  have E:Hid (Z=true):=by
   show Z=_;rw[hZ.out];unfold z7;simp[hn,show S=[]from List.eq_nil_of_length_eq_zero (by omega),show T=[]from List.eq_nil_of_length_eq_zero (by omega)]
  clear hZ;rw[hn]at R;go_enter func96,ntmps96;go_wp2_with fail;refine mr (R.out _ (by rfl)) fun w1 hb=>?_
  have g0:=((aa.new w [.int .i64 N,.slice ao xs.length cap,.slice so S.length sc,.slice tO T.length tc] 55).kept (below_alloc _ _)).kept hb;have g1:=g0.cell 2 rfl;have g2:=g0.cell 3 rfl;clear g0
  replace hb:=bg bW hb;go_wp2;go_ret;rw[E.out];exact⟨rfl,hb⟩
theorem Da(cs:List Value)(a:aP)(w:World)(h:eO w cs a):
  Qq 97 #[.agg cs.toArray] w (.bool (z8 a)):=by
 obtain⟨ao,cap,qo,dap,so,sc,tO,tc,rfl, -⟩:=h;obtain⟨N,k,V,M,xs,L,ys,S,T⟩:=a;dsimp only;obtain⟨Z,hZ⟩:∃Z,Hid (Z=z8 ⟨N,k,V,M,xs,L,ys,S,T⟩):=⟨_,rfl⟩;rw[<-hZ.out];by_cases qN:N=0
 rotate_left
 .have dN:(N==0)=false:=by simp[qN]
  have E:Hid (Z=false):=by
   show Z=_;rw[hZ.out];unfold z8;simp[qN]
  clear hZ;go_enter func97,ntmps97;go_wp2;go_ret;rw[E.out];exact⟨rfl,below_alloc _ _⟩
 subst qN;by_cases qk:k=0;rotate_left
 .have dk:(k==0)=false:=by simp[qk]
  have E:Hid (Z=false):=by
   show Z=_;rw[hZ.out];unfold z8;simp[qk]
  clear hZ;go_enter func97,ntmps97;go_wp2;go_ret;rw[E.out];exact⟨rfl,below_alloc _ _⟩
 subst qk;by_cases qV:V=0;rotate_left
 .have dV:(V==0)=false:=by simp[qV]
  have E:Hid (Z=false):=by
   show Z=_;rw[hZ.out];unfold z8;simp[qV]
  clear hZ;go_enter func97,ntmps97;go_wp2;go_ret;rw[E.out];exact⟨rfl,below_alloc _ _⟩
 subst qV
 obtain⟨W,hW⟩:∃W,W=(w.alloc (.cells #[.int .i64 0,.int .i64 0,.int .i64 0,.int .i64 M,.slice ao xs.length cap,.int .i64 L,.slice qo ys.length dap,.slice so S.length sc,.slice tO T.length tc] 59)).alloc (.cells #[.int .i64 M,.slice ao xs.length cap,.int .i64 L,.slice qo ys.length dap] 53):=⟨_,rfl⟩
 have bW:=db hW
 have R:Hid (∀w0:World,w0=W->Qq 151 #[.slice (some ⟨w.heap.size+1,0,none⟩) 2 2] w0 (.bool (norw [(M,xs.length),(L,ys.length)]))):=fun w0 g=>by
  subst g;refine pS _ 2 [(M,xs.length),(L,ys.length)] w0 ?_ (by simp)
  have hx:=sB (w.alloc (.cells #[.int .i64 0,.int .i64 0,.int .i64 0,.int .i64 M,.slice ao xs.length cap,.int .i64 L,.slice qo ys.length dap,.slice so S.length sc,.slice tO T.length tc] 59)) M ao xs.length cap L qo ys.length dap 53
  rw[show(w.alloc (.cells #[.int .i64 0,.int .i64 0,.int .i64 0,.int .i64 M,.slice ao xs.length cap,.int .i64 L,.slice qo ys.length dap,.slice so S.length sc,.slice tO T.length tc] 59)).heap.size=w.heap.size+1 by simp]at hx
  rw[hW];exact hx
 subst hW;cases hn:norw [(M,xs.length),(L,ys.length)]with
 | false=>
  have E:Hid (Z=false):=by
   show Z=_;rw[hZ.out];unfold z8;simp[hn]
  clear hZ;rw[hn]at R;go_enter func97,ntmps97;go_wp2_with fail;refine mr (R.out _ (by rfl)) fun w1 hb=>?_
  have g0:=((aa.new w [.int .i64 0,.int .i64 0,.int .i64 0,.int .i64 M,.slice ao xs.length cap,.int .i64 L,.slice qo ys.length dap,.slice so S.length sc,.slice tO T.length tc] 59).kept (below_alloc _ _)).kept hb
  have g1:=g0.cell 7 rfl;have g2:=g0.cell 8 rfl;clear g0;replace hb:=bg bW hb;go_wp2;go_ret;rw[E.out];exact⟨rfl,hb⟩
 | true=>
  by_cases qS:(S.length:Int)=0;rotate_left
  .have dS:((S.length:Int)==0)=false:=beq_eq_false_iff_ne.2 qS
   have E:Hid (Z=false):=by
    show Z=_;rw[hZ.out];unfold z8;simp[hn,show ¬S=[]from fun e=>qS (by rw[e];rfl)]
   clear hZ;rw[hn]at R;go_enter func97,ntmps97;go_wp2_with fail;refine mr (R.out _ (by rfl)) fun w1 hb=>?_
   have g0:=((aa.new w [.int .i64 0,.int .i64 0,.int .i64 0,.int .i64 M,.slice ao xs.length cap,.int .i64 L,.slice qo ys.length dap,.slice so S.length sc,.slice tO T.length tc] 59).kept (below_alloc _ _)).kept hb
   have g1:=g0.cell 7 rfl;have g2:=g0.cell 8 rfl;clear g0;replace hb:=bg bW hb;go_wp2;go_ret;rw[E.out];exact⟨rfl,hb⟩
  have dS:((S.length:Int)==0)=true:=by simp only[qS];rfl
  by_cases qT:(T.length:Int)=0;rotate_left
  .have dT:((T.length:Int)==0)=false:=beq_eq_false_iff_ne.2 qT
   have E:Hid (Z=false):=by
    show Z=_;rw[hZ.out];unfold z8;simp[hn,show S=[]from List.eq_nil_of_length_eq_zero (by omega),show ¬T=[]from fun e=>qT (by rw[e];rfl)]
   clear hZ;rw[hn]at R;go_enter func97,ntmps97;go_wp2_with fail;refine mr (R.out _ (by rfl)) fun w1 hb=>?_
   have g0:=((aa.new w [.int .i64 0,.int .i64 0,.int .i64 0,.int .i64 M,.slice ao xs.length cap,.int .i64 L,.slice qo ys.length dap,.slice so S.length sc,.slice tO T.length tc] 59).kept (below_alloc _ _)).kept hb
   have g1:=g0.cell 7 rfl;have g2:=g0.cell 8 rfl;clear g0;replace hb:=bg bW hb;go_wp2;go_ret;rw[E.out];exact⟨rfl,hb⟩
  have dT:((T.length:Int)==0)=true:=by simp only[qT];rfl
  have E:Hid (Z=true):=by
   show Z=_;rw[hZ.out];unfold z8;simp[hn,show S=[]from List.eq_nil_of_length_eq_zero (by omega),show T=[]from List.eq_nil_of_length_eq_zero (by omega)]
  clear hZ;rw[hn]at R;go_enter func97,ntmps97;go_wp2_with fail;refine mr (R.out _ (by rfl)) fun w1 hb=>?_
  have g0:=((aa.new w [.int .i64 0,.int .i64 0,.int .i64 0,.int .i64 M,.slice ao xs.length cap,.int .i64 L,.slice qo ys.length dap,.slice so S.length sc,.slice tO T.length tc] 59).kept (below_alloc _ _)).kept hb
  have g1:=g0.cell 7 rfl;have g2:=g0.cell 8 rfl;clear g0;replace hb:=bg bW hb;go_wp2;go_ret;rw[E.out];exact⟨rfl,hb⟩
theorem Dc(cs:List Value)(a:bp)(w:World)(h:fd w cs a):
  Qq 98 #[.agg cs.toArray] w (.bool (z9 a)):=by
 obtain⟨ao,cap,qo,dap,rfl, -⟩:=h;obtain⟨N,M,k,V,LM,xs,H,ys⟩:=a;dsimp only;obtain⟨Z,hZ⟩:∃Z,Hid (Z=z9 ⟨N,M,k,V,LM,xs,H,ys⟩):=⟨_,rfl⟩;rw[<-hZ.out];by_cases qN:N=0;rotate_left
 .have dN:(N==0)=false:=by simp[qN]
  have E:Hid (Z=false):=by
   show Z=_;rw[hZ.out];unfold z9;simp[qN]
  clear hZ;go_enter func98,ntmps98;go_wp2;go_ret;rw[E.out];exact⟨rfl,below_alloc _ _⟩
 subst qN;by_cases qM:M=0;rotate_left
 .have dM:(M==0)=false:=by simp[qM]
  have E:Hid (Z=false):=by
   show Z=_;rw[hZ.out];unfold z9;simp[qM]
  clear hZ;go_enter func98,ntmps98;go_wp2;go_ret;rw[E.out];exact⟨rfl,below_alloc _ _⟩
 subst qM;by_cases qk:k=0;rotate_left
 .have dk:(k==0)=false:=by simp[qk]
  have E:Hid (Z=false):=by
   show Z=_;rw[hZ.out];unfold z9;simp[qk]
  clear hZ;go_enter func98,ntmps98;go_wp2;go_ret;rw[E.out];exact⟨rfl,below_alloc _ _⟩
 subst qk;by_cases qV:V=0;rotate_left
 .have dV:(V==0)=false:=by simp[qV]
  have E:Hid (Z=false):=by
   show Z=_;rw[hZ.out];unfold z9;simp[qV]
  clear hZ;go_enter func98,ntmps98;go_wp2;go_ret;rw[E.out];exact⟨rfl,below_alloc _ _⟩
 subst qV
 obtain⟨W,hW⟩:∃W,W=(w.alloc (.cells #[.int .i64 0,.int .i64 0,.int .i64 0,.int .i64 0,.int .i64 LM,.slice ao xs.length cap,.int .i64 H,.slice qo ys.length dap] 61)).alloc (.cells #[.int .i64 LM,.slice ao xs.length cap,.int .i64 H,.slice qo ys.length dap] 53):=⟨_,rfl⟩
 have bW:=db hW
 have R:Hid (∀w0:World,w0=W->Qq 151 #[.slice (some ⟨w.heap.size+1,0,none⟩) 2 2] w0 (.bool (norw [(LM,xs.length),(H,ys.length)]))):=fun w0 g=>by
  subst g;refine pS _ 2 [(LM,xs.length),(H,ys.length)] w0 ?_ (by simp)
  have hx:=sB (w.alloc (.cells #[.int .i64 0,.int .i64 0,.int .i64 0,.int .i64 0,.int .i64 LM,.slice ao xs.length cap,.int .i64 H,.slice qo ys.length dap] 61)) LM ao xs.length cap H qo ys.length dap 53
  rw[show(w.alloc (.cells #[.int .i64 0,.int .i64 0,.int .i64 0,.int .i64 0,.int .i64 LM,.slice ao xs.length cap,.int .i64 H,.slice qo ys.length dap] 61)).heap.size=w.heap.size+1 by simp]at hx;rw[hW];exact hx
 subst hW;cases hn:norw [(LM,xs.length),(H,ys.length)]with
 | false=>
  have E:Hid (Z=false):=by
   show Z=_;rw[hZ.out];unfold z9;simp[hn]
  clear hZ;rw[hn]at R;go_enter func98,ntmps98;go_wp2_with fail;refine mr (R.out _ (by rfl)) fun w1 hb=>?_;replace hb:=bg bW hb;go_wp2;go_ret;rw[E.out];exact⟨rfl,hb⟩
 | true=>
  have E:Hid (Z=true):=by
   show Z=_;rw[hZ.out];unfold z9;simp[hn]
  clear hZ;rw[hn]at R;go_enter func98,ntmps98;go_wp2_with fail;refine mr (R.out _ (by rfl)) fun w1 hb=>?_;replace hb:=bg bW hb;go_wp2;go_ret;rw[E.out];exact⟨rfl,hb⟩
theorem parts{w:World}{b:Nat}{K:Value}{cp cr cf:List Value}{T:TypeId}(l4:cp.length=4)(l9:9=cr.length)(h:aa w b (K::(cp++(cr++cf))) T):w.cell? ⟨b,0,none⟩=some K/\w.rangeAt b 1 cp/\w.rangeAt b 5 cr/\w.rangeAt b 14 cf:=by
 have a2:=aa.part (K::cp) cr cf h;rw[List.length_cons,l4]at a2;have h':aa w b ((K::(cp++cr))++(cf++[])) T:=by simpa using h
 have a3:=aa.part (K::(cp++cr)) cf [] h';rw[List.length_cons,List.length_append,l4,<-l9]at a3;exact⟨h.cell 0 rfl,aa.part [K] cp (cr++cf) h,a2,a3⟩
theorem f_(cs:List Value)(a:RA)(w:World)(h:dq w cs a):
  Qq 55 #[.agg cs.toArray] w (.int .i64 (kOn a)):=by
 obtain⟨cp,cr,cf,rfl,hK,h1,h2,h3⟩:=h;have l4:=Hid.mk8 h1.four;have l9:=Hid.mk8 h2.nine;have LP:=Hid.mk8 h1.len;have LR:=Hid.mk8 h2.len;have LF:=Hid.mk8 h3.len;obtain⟨K,p,r,f⟩:=a;dsimp only at *
 obtain⟨W,hW⟩:∃W,W=w.alloc (.cells (Value.int .i64 K::(cp++(cr++cf))).toArray 63):=⟨_,rfl⟩;have bw:Below w.heap.size w W:=by rw[hW];exact below_alloc w _
 have B0:=bj hW;obtain⟨O,hO⟩:∃O,Hid (O=kOn ⟨K,p,r,f⟩):=⟨_,rfl⟩;rw[<-hO.out]
 have N7:Hid (Qz w 96 #[.agg cp.toArray] (.bool (z7 p))):=fun w0 g=>Db cp p w0 (h1.keep g)
 have N8:Hid (Qz w 97 #[.agg cr.toArray] (.bool (z8 r))):=fun w0 g=>Da cr r w0 (h2.keep g)
 have N9:Hid (Qz w 98 #[.agg cf.toArray] (.bool (z9 f))):=fun w0 g=>Dc cf f w0 (h3.keep g);clear h1 h2 h3;subst hW
 by_cases q1:K=1
 .subst q1;cases y8:z8 r with
  | false=>
   have E:Hid (O=0):=by
    show O=_;rw[hO.out];unfold kOn cD;simp[y8]
   rw[y8]at N8;clear hO;go_enter func55,ntmps55;obtain⟨c0,p1,p2,p3⟩:=parts l4.out l9.out B0;go_wp2_with (refine aR w.heap.size 5 cr (by rfl) rfl p2 underlying59 LR.out ?_)
   refine mr (N8.out _ bw) fun w8 hb=>?_;replace B0:=B0.kept hb;replace bw:=bg bw hb;clear hb c0 p1 p2 p3;obtain⟨c0,p1,p2,p3⟩:=parts l4.out l9.out B0;go_wp2;go_ret;rw[E.out]
   exact⟨rfl,bw⟩
  | true=>
   cases y9:z9 f with
   | false=>
    have E:Hid (O=0):=by
     show O=_;rw[hO.out];unfold kOn cD;simp[y8,y9]
    rw[y8]at N8;rw[y9]at N9;clear hO;go_enter func55,ntmps55;obtain⟨c0,p1,p2,p3⟩:=parts l4.out l9.out B0;go_wp2_with (refine aR w.heap.size 5 cr (by rfl) rfl p2 underlying59 LR.out ?_)
    refine mr (N8.out _ bw) fun w8 hb=>?_;replace B0:=B0.kept hb;replace bw:=bg bw hb;clear hb c0 p1 p2 p3;obtain⟨c0,p1,p2,p3⟩:=parts l4.out l9.out B0
    go_wp2_with (refine aR w.heap.size 14 cf (by rfl) rfl p3 underlying61 LF.out ?_);refine mr (N9.out _ bw) fun w9 hb=>?_;replace B0:=B0.kept hb;replace bw:=bg bw hb
    clear hb c0 p1 p2 p3;obtain⟨c0,p1,p2,p3⟩:=parts l4.out l9.out B0;go_wp2;go_ret;rw[E.out];exact⟨rfl,bw⟩
   | true=>
    have E:Hid (O=1):=by
     show O=_;rw[hO.out];unfold kOn cD;simp[y8,y9]
    rw[y8]at N8;rw[y9]at N9;clear hO;go_enter func55,ntmps55;obtain⟨c0,p1,p2,p3⟩:=parts l4.out l9.out B0;go_wp2_with (refine aR w.heap.size 5 cr (by rfl) rfl p2 underlying59 LR.out ?_)
    refine mr (N8.out _ bw) fun w8 hb=>?_;replace B0:=B0.kept hb;replace bw:=bg bw hb;clear hb c0 p1 p2 p3;obtain⟨c0,p1,p2,p3⟩:=parts l4.out l9.out B0
    go_wp2_with (refine aR w.heap.size 14 cf (by rfl) rfl p3 underlying61 LF.out ?_);refine mr (N9.out _ bw) fun w9 hb=>?_;replace B0:=B0.kept hb;replace bw:=bg bw hb
    clear hb c0 p1 p2 p3;obtain⟨c0,p1,p2,p3⟩:=parts l4.out l9.out B0;go_wp2;go_ret;rw[E.out];exact⟨rfl,bw⟩
 have d1:(K != 1)=true:=by simp[q1]
 by_cases q2:K=2
 .subst q2;cases y7:z7 p with
  | false=>
   have E:Hid (O=0):=by
    show O=_;rw[hO.out];unfold kOn cD;simp[y7]
   rw[y7]at N7;clear hO;go_enter func55,ntmps55;obtain⟨c0,p1,p2,p3⟩:=parts l4.out l9.out B0;go_wp2_with (refine aR w.heap.size 1 cp (by rfl) rfl p1 underlying55 LP.out ?_)
   refine mr (N7.out _ bw) fun w7 hb=>?_;replace B0:=B0.kept hb;replace bw:=bg bw hb;clear hb c0 p1 p2 p3;obtain⟨c0,p1,p2,p3⟩:=parts l4.out l9.out B0;go_wp2;go_ret;rw[E.out]
   exact⟨rfl,bw⟩
  | true=>
   cases y9:z9 f with
   | false=>
    have E:Hid (O=0):=by
     show O=_;rw[hO.out];unfold kOn cD;simp[y7,y9]
    rw[y7]at N7;rw[y9]at N9;clear hO;go_enter func55,ntmps55;obtain⟨c0,p1,p2,p3⟩:=parts l4.out l9.out B0;go_wp2_with (refine aR w.heap.size 1 cp (by rfl) rfl p1 underlying55 LP.out ?_)
    refine mr (N7.out _ bw) fun w7 hb=>?_;replace B0:=B0.kept hb;replace bw:=bg bw hb;clear hb c0 p1 p2 p3;obtain⟨c0,p1,p2,p3⟩:=parts l4.out l9.out B0
    go_wp2_with (refine aR w.heap.size 14 cf (by rfl) rfl p3 underlying61 LF.out ?_);refine mr (N9.out _ bw) fun w9 hb=>?_;replace B0:=B0.kept hb;replace bw:=bg bw hb
    clear hb c0 p1 p2 p3;obtain⟨c0,p1,p2,p3⟩:=parts l4.out l9.out B0;go_wp2;go_ret;rw[E.out];exact⟨rfl,bw⟩
   | true=>
    have E:Hid (O=2):=by
     show O=_;rw[hO.out];unfold kOn cD;simp[y7,y9]
    rw[y7]at N7;rw[y9]at N9;clear hO;go_enter func55,ntmps55;obtain⟨c0,p1,p2,p3⟩:=parts l4.out l9.out B0;go_wp2_with (refine aR w.heap.size 1 cp (by rfl) rfl p1 underlying55 LP.out ?_)
    refine mr (N7.out _ bw) fun w7 hb=>?_;replace B0:=B0.kept hb;replace bw:=bg bw hb;clear hb c0 p1 p2 p3;obtain⟨c0,p1,p2,p3⟩:=parts l4.out l9.out B0
    go_wp2_with (refine aR w.heap.size 14 cf (by rfl) rfl p3 underlying61 LF.out ?_);refine mr (N9.out _ bw) fun w9 hb=>?_;replace B0:=B0.kept hb;replace bw:=bg bw hb
    clear hb c0 p1 p2 p3;obtain⟨c0,p1,p2,p3⟩:=parts l4.out l9.out B0;go_wp2;go_ret;rw[E.out];exact⟨rfl,bw⟩
 have d2:(K != 2)=true:=by simp[q2]
 by_cases q3:K=3
 .subst q3;cases y7:z7 p with
  | false=>
   have E:Hid (O=0):=by
    show O=_;rw[hO.out];unfold kOn cD;simp[y7]
   rw[y7]at N7;clear hO;go_enter func55,ntmps55;obtain⟨c0,p1,p2,p3⟩:=parts l4.out l9.out B0;go_wp2_with (refine aR w.heap.size 1 cp (by rfl) rfl p1 underlying55 LP.out ?_)
   refine mr (N7.out _ bw) fun w7 hb=>?_;replace B0:=B0.kept hb;replace bw:=bg bw hb;clear hb c0 p1 p2 p3;obtain⟨c0,p1,p2,p3⟩:=parts l4.out l9.out B0;go_wp2;go_ret;rw[E.out]
   exact⟨rfl,bw⟩
  | true=>
   cases y8:z8 r with
   | false=>
    have E:Hid (O=0):=by
     show O=_;rw[hO.out];unfold kOn cD;simp[y7,y8]
    rw[y7]at N7;rw[y8]at N8;clear hO;go_enter func55,ntmps55;obtain⟨c0,p1,p2,p3⟩:=parts l4.out l9.out B0;go_wp2_with (refine aR w.heap.size 1 cp (by rfl) rfl p1 underlying55 LP.out ?_)
    refine mr (N7.out _ bw) fun w7 hb=>?_;replace B0:=B0.kept hb;replace bw:=bg bw hb;clear hb c0 p1 p2 p3;obtain⟨c0,p1,p2,p3⟩:=parts l4.out l9.out B0
    go_wp2_with (refine aR w.heap.size 5 cr (by rfl) rfl p2 underlying59 LR.out ?_);refine mr (N8.out _ bw) fun w8 hb=>?_;replace B0:=B0.kept hb;replace bw:=bg bw hb
    clear hb c0 p1 p2 p3;obtain⟨c0,p1,p2,p3⟩:=parts l4.out l9.out B0;go_wp2;go_ret;rw[E.out];exact⟨rfl,bw⟩
   | true=>
    have E:Hid (O=3):=by
     show O=_;rw[hO.out];unfold kOn cD;simp[y7,y8]
    rw[y7]at N7;rw[y8]at N8;clear hO;go_enter func55,ntmps55;obtain⟨c0,p1,p2,p3⟩:=parts l4.out l9.out B0;go_wp2_with (refine aR w.heap.size 1 cp (by rfl) rfl p1 underlying55 LP.out ?_)
    refine mr (N7.out _ bw) fun w7 hb=>?_;replace B0:=B0.kept hb;replace bw:=bg bw hb;clear hb c0 p1 p2 p3;obtain⟨c0,p1,p2,p3⟩:=parts l4.out l9.out B0
    go_wp2_with (refine aR w.heap.size 5 cr (by rfl) rfl p2 underlying59 LR.out ?_);refine mr (N8.out _ bw) fun w8 hb=>?_;replace B0:=B0.kept hb;replace bw:=bg bw hb
    clear hb c0 p1 p2 p3;obtain⟨c0,p1,p2,p3⟩:=parts l4.out l9.out B0;go_wp2;go_ret;rw[E.out];exact⟨rfl,bw⟩
 have d3:(K != 3)=true:=by simp[q3]
 cases y7:z7 p with
 | false=>
  have E:Hid (O=0):=by
   show O=_;rw[hO.out];unfold kOn cD;simp[q1,q2,q3,y7]
  rw[y7]at N7;clear hO;go_enter func55,ntmps55;obtain⟨c0,p1,p2,p3⟩:=parts l4.out l9.out B0;go_wp2_with (refine aR w.heap.size 1 cp (by rfl) rfl p1 underlying55 LP.out ?_)
  refine mr (N7.out _ bw) fun w7 hb=>?_;replace B0:=B0.kept hb;replace bw:=bg bw hb;clear hb c0 p1 p2 p3;obtain⟨c0,p1,p2,p3⟩:=parts l4.out l9.out B0;go_wp2;go_ret;rw[E.out]
  exact⟨rfl,bw⟩
 | true=>
  cases y8:z8 r with
  | false=>
   have E:Hid (O=0):=by
    show O=_;rw[hO.out];unfold kOn cD;simp[q1,q2,q3,y7,y8]
   rw[y7]at N7;rw[y8]at N8;clear hO;go_enter func55,ntmps55;obtain⟨c0,p1,p2,p3⟩:=parts l4.out l9.out B0;go_wp2_with (refine aR w.heap.size 1 cp (by rfl) rfl p1 underlying55 LP.out ?_)
   refine mr (N7.out _ bw) fun w7 hb=>?_;replace B0:=B0.kept hb;replace bw:=bg bw hb;clear hb c0 p1 p2 p3;obtain⟨c0,p1,p2,p3⟩:=parts l4.out l9.out B0
   go_wp2_with (refine aR w.heap.size 5 cr (by rfl) rfl p2 underlying59 LR.out ?_);refine mr (N8.out _ bw) fun w8 hb=>?_;replace B0:=B0.kept hb;replace bw:=bg bw hb
   clear hb c0 p1 p2 p3;obtain⟨c0,p1,p2,p3⟩:=parts l4.out l9.out B0;go_wp2;go_ret;rw[E.out];exact⟨rfl,bw⟩
  | true=>
   cases y9:z9 f with
   | false=>
    have E:Hid (O=0):=by
     show O=_;rw[hO.out];unfold kOn cD;simp[q1,q2,q3,y7,y8,y9]
    rw[y7]at N7;rw[y8]at N8;rw[y9]at N9;clear hO;go_enter func55,ntmps55;obtain⟨c0,p1,p2,p3⟩:=parts l4.out l9.out B0
    go_wp2_with (refine aR w.heap.size 1 cp (by rfl) rfl p1 underlying55 LP.out ?_);refine mr (N7.out _ bw) fun w7 hb=>?_;replace B0:=B0.kept hb;replace bw:=bg bw hb
    clear hb c0 p1 p2 p3;obtain⟨c0,p1,p2,p3⟩:=parts l4.out l9.out B0;go_wp2_with (refine aR w.heap.size 5 cr (by rfl) rfl p2 underlying59 LR.out ?_);refine mr (N8.out _ bw) fun w8 hb=>?_
    replace B0:=B0.kept hb;replace bw:=bg bw hb;clear hb c0 p1 p2 p3;obtain⟨c0,p1,p2,p3⟩:=parts l4.out l9.out B0
    go_wp2_with (refine aR w.heap.size 14 cf (by rfl) rfl p3 underlying61 LF.out ?_);refine mr (N9.out _ bw) fun w9 hb=>?_;replace B0:=B0.kept hb;replace bw:=bg bw hb
    clear hb c0 p1 p2 p3;obtain⟨c0,p1,p2,p3⟩:=parts l4.out l9.out B0;go_wp2;go_ret;rw[E.out];exact⟨rfl,bw⟩
   | true=>
    have E:Hid (O=K):=by
     show O=_;rw[hO.out];unfold kOn cD;simp[q1,q2,q3,y7,y8,y9]
    rw[y7]at N7;rw[y8]at N8;rw[y9]at N9;clear hO;go_enter func55,ntmps55;obtain⟨c0,p1,p2,p3⟩:=parts l4.out l9.out B0
    go_wp2_with (refine aR w.heap.size 1 cp (by rfl) rfl p1 underlying55 LP.out ?_);refine mr (N7.out _ bw) fun w7 hb=>?_;replace B0:=B0.kept hb;replace bw:=bg bw hb
    clear hb c0 p1 p2 p3;obtain⟨c0,p1,p2,p3⟩:=parts l4.out l9.out B0;go_wp2_with (refine aR w.heap.size 5 cr (by rfl) rfl p2 underlying59 LR.out ?_);refine mr (N8.out _ bw) fun w8 hb=>?_
    replace B0:=B0.kept hb;replace bw:=bg bw hb;clear hb c0 p1 p2 p3;obtain⟨c0,p1,p2,p3⟩:=parts l4.out l9.out B0
    go_wp2_with (refine aR w.heap.size 14 cf (by rfl) rfl p3 underlying61 LF.out ?_);refine mr (N9.out _ bw) fun w9 hb=>?_;replace B0:=B0.kept hb;replace bw:=bg bw hb
    clear hb c0 p1 p2 p3;obtain⟨c0,p1,p2,p3⟩:=parts l4.out l9.out B0;go_wp2;go_ret;rw[E.out];exact⟨rfl,bw⟩
end Go.Proofs.YtleegaihbgbcjabGreatDoor
namespace Go.Proofs.YtleegaihbgbcjabGreatDoor
open Num
namespace Bit
def aZ(xs:List Nat)(g:Nat):List Nat:=(xs.drop (8*g)).take 8
theorem fG(xs:List Nat)(g:Nat):(aZ xs g).length=min 8 (xs.length-8*g):=by simp[aZ]
theorem qA(xs:List Nat)(g k:Nat)(h:k<8):gt (aZ xs g) k=gt xs (8*g+k):=by
 unfold gt aZ;rw[List.getD_eq_getElem?_getD,List.getD_eq_getElem?_getD,List.getElem?_take_of_lt h,List.getElem?_drop]
theorem Gm(xs:List Nat)(hf:aA xs)(g:Nat):aA (aZ xs g):=by
 intro i;by_cases h:i<8
 .rw[qA xs g i h];exact hf _
 .rw[jy _ _ (by rw[fG];omega)];decide
theorem IU(xs:List Nat)(g i:Nat)(h:i<512):bitAt (aZ xs g) i=bitAt xs (512*g+i):=by
 unfold bitAt;rw[qA xs g (i/64) (by omega),show(512*g+i)/64=8*g+i/64 by omega,show(512*g+i)%64=i%64 by omega]
theorem qR(xs:List Nat)(g:Nat):∀i,i<=512->cntB xs (512*g+i)=cntB xs (512*g)+cntB (aZ xs g) i
 | 0,_=>by simp[cntB]
 | i+1,h=>by
  have ih:=qR xs g i (by omega);rw[show 512*g+(i+1)=512*g+i+1 by omega];simp only[cntB];rw[ih,IU xs g i (by omega)];omega
theorem IQ(xs:List Nat)(i:Nat)(h:64*xs.length<=i):bitAt xs i=false:=by
 unfold bitAt;rw[jy xs _ (by omega)];simp
theorem Hf(xs:List Nat)(d:Nat):cntB xs (64*xs.length+d)=cntB xs (64*xs.length):=by
 induction d with
 | zero=>rfl
 | succ d ih=>
  rw[show 64*xs.length+(d+1)=64*xs.length+d+1 by omega];simp only[cntB];rw[ih,IQ xs _ (by omega)];simp
theorem Hg(xs:List Nat)(g:Nat):cntB xs (512*(g+1))=cntB xs (512*g)+cntB (aZ xs g) (64*(aZ xs g).length):=by
 have a:=qR xs g 512 (by omega);have hl:(aZ xs g).length<=8:=by rw[fG];omega
 have b:=Hf (aZ xs g) (512-64*(aZ xs g).length);rw[show 64*(aZ xs g).length+(512-64*(aZ xs g).length)=512 by omega]at b;rw[show 512*(g+1)=512*g+512 by omega,a,b]
def iP(ws:List Nat)(q:Nat):List Int:=(List.range 8).map fun j=>if j<q then (cntB ws (64*j):Int)else 0
def iO(ws:List Nat):List Int:=iP ws ws.length
theorem jY(ws:List Nat)(q:Nat):(iP ws q).length=8:=by simp[iP]
theorem od(ws:List Nat):(iO ws).length=8:=jY _ _
theorem qE(ws:List Nat)(q i:Nat)(h:i<8):gi (iP ws q) i=if i<q then (cntB ws (64*i):Int)else 0:=jd _ _ _ h
theorem Jh(ws:List Nat):iP ws 0=List.replicate 8 0:=by
 unfold iP;simp;rfl
theorem FG(l:List Int)(i j:Nat)(v:Int)(h:i<l.length):gi (l.set i v) j=if i=j then v else gi l j:=by
 unfold gi;rw[List.getD_eq_getElem?_getD,List.getD_eq_getElem?_getD,List.getElem?_set];by_cases c:i=j
 .subst c;simp[h]
 .simp[c]
theorem Ji(ws:List Nat)(q:Nat)(h:q<8):(iP ws q).set q (cntB ws (64*q):Int)=iP ws (q+1):=by
 refine jA (by simp[jY]) fun i hi=>?_;rw[List.length_set,jY]at hi;rw[FG _ _ _ _ (by rw[jY];exact h),qE _ _ _ hi,qE _ _ _ hi];by_cases c:q=i
 .subst c;rw[if_pos rfl,if_pos (by omega)]
 .rw[if_neg c];by_cases d:i<q
  .rw[if_pos d,if_pos (by omega)]
  .rw[if_neg d,if_neg (by omega)]
theorem He(ws:List Nat)(q:Nat):cntB ws (64*(q+1))=cntB ws (64*q)+cnt (gt ws q) 64:=by
 have:=j_ ws q 64 (Nat.le_refl _);rw[show 64*(q+1)=64*q+64 by omega];exact this
def gD(xs:List Nat)(g:Nat):List Int:=(iO (aZ xs g)).take (aZ xs g).length
theorem qh(xs:List Nat)(g:Nat):(gD xs g).length=(aZ xs g).length:=by
 unfold gD;rw[List.length_take,od,fG];omega
theorem mC(l:List Int)(n i:Nat)(h:i<n):gi (l.take n) i=gi l i:=by
 unfold gi;rw[List.getD_eq_getElem?_getD,List.getD_eq_getElem?_getD,List.getElem?_take_of_lt h]
theorem qD(l:List Int)(n i:Nat):gi (l.drop n) i=gi l (n+i):=by
 unfold gi;rw[List.getD_eq_getElem?_getD,List.getD_eq_getElem?_getD,List.getElem?_drop]
theorem vk(xs:List Nat)(g i:Nat)(h:i<(aZ xs g).length):gi (gD xs g) i=(cntB (aZ xs g) (64*i):Int):=by
 have:=fG xs g;unfold gD;rw[mC _ _ _ h];unfold iO;rw[qE _ _ _ (by omega),if_pos h]
theorem vT(N:Int)(xs:List Nat)(h:az N xs=true):∃m:Nat,N=(m:Int)/\m<=1048576/\xs.length=(m+63)/64:=by
 obtain⟨h0,h1,h2,_⟩:=bn N xs h;exact⟨N.toNat,by omega,by omega,by omega⟩
theorem pN(m:Nat)(xs:List Nat)(hk:az (m:Int) xs=true)(i:Nat)(hi:i<=m):onesI (m:Int) xs (i:Int)=(cntB xs i:Int):=by
 unfold onesI;rw[if_pos hk,show(min (i:Int) (m:Int)).toNat=i by omega]
theorem pg(m:Nat)(xs:List Nat)(hk:az (m:Int) xs=true)(g:Nat)(hg:g<=m/512):ff (m:Int) xs g=(cntB xs (512*g):Int):=by
 unfold ff;have:=pN m xs hk (512*g) (by omega);rw[<-this];congr 1
theorem rZ(m:Nat)(xs:List Nat)(hk:az (m:Int) xs=true)(hl:xs.length=(m+63)/64)(g i:Nat)(hi:i<(aZ xs g).length):fg (m:Int) xs (8*g+i)=(cntB (aZ xs g) (64*i):Int):=by
 rw[fG]at hi;unfold fg;have a:=pN m xs hk (64*(8*g+i)) (by omega);have b:=pg m xs hk g (by omega);have c:=qR xs g (64*i) (by omega)
 rw[show 512*g+64*i=64*(8*g+i)by omega]at c;rw[show(64*((8*g+i:Nat):Int))=((64*(8*g+i):Nat):Int)by omega,a,show(8*g+i)/8=g by omega,b,c];omega
def wb(xs:List Nat)(bit:Bool)(j:Nat):Nat:=if bit then gt xs j else 18446744073709551615-gt xs j
theorem xE(xs:List Nat)(hf:aA xs)(bit:Bool)(j:Nat):wb xs bit j<18446744073709551616:=by
 have:=hf j;unfold wb;split<;>omega
theorem qW(xs:List Nat)(hf:aA xs)(bit:Bool)(j r:Nat)(hr:r<=64):cB xs bit (64*j+r)=cB xs bit (64*j)+cnt (wb xs bit j) r:=by
 have a:=j_ xs j r hr;have l:=gB xs (64*j);have l2:=dy (gt xs j) r;unfold cB wb;cases bit with
 | true=>simp only[if_true];exact a
 | false=>
  have f:=oL (gt xs j) r 64 (by have:=hf j;omega) hr;rw[show(2^64-1-gt xs j)=18446744073709551615-gt xs j by omega]at f;simp only[Bool.false_eq_true,if_false];rw[a,f];omega
theorem xF(xs:List Nat)(hf:aA xs)(bit:Bool)(j r:Nat)(hr:r<64)(h:bitAt xs (64*j+r)=bit):wb xs bit j/2^r%2=1:=by
 have a:=qW xs hf bit j r (by omega);have b:=qW xs hf bit j (r+1) (by omega);have c:=jh xs bit (64*j+r);rw[if_pos h]at c;rw[show 64*j+(r+1)=64*j+r+1 by omega]at b;simp only[cnt]at b
 have:(wb xs bit j/2^r%2)<2:=Nat.mod_lt _ (by decide);revert b;generalize wb xs bit j/2^r%2=z at *;intro b;omega
theorem yq(m:Nat)(xs:List Nat)(hf:aA xs)(hl:xs.length=(m+63)/64)(bit:Bool)(k j:Nat)(hk:k<cB xs bit m)(hj:j<=xs.length-1)
  (h1:∀i,i<j->cB xs bit (64*(i+1))<=k) (h2:∀i,j<=i->i<xs.length-1->k<cB xs bit (64*(i+1))):
  cB xs bit (64*j)<=k/\∃r:Nat,r<64/\iS (wb xs bit j:Int) ((k:Int)-(cB xs bit (64*j):Int))=(r:Int)/\cP (m:Int) xs bit (k:Int)=some (64*j+r):=by
 have hle:cB xs bit (64*j)<=k:=by
  by_cases c:j=0
  .subst c;have:=ia xs bit (64*0);omega
  .have:=h1 (j-1) (by omega);rw[show j-1+1=j by omega]at this;exact this
 refine⟨hle,?_⟩;have hs:(cP (m:Int) xs bit (k:Int)).isSome=true:=(jS _ _ _ _).2 ⟨by omega,by rw[Int.toNat_natCast];omega⟩;obtain⟨i,hi⟩:=Option.isSome_iff_exists.1 hs
 obtain⟨g1,g2,g3⟩:=pG _ _ _ _ _ hi;rw[Int.toNat_natCast]at g1
 have e1:64*j<=i:=by
  apply Nat.le_of_not_lt;intro c;have a:=jh xs bit i;rw[if_pos g2]at a;have b:=ji xs bit (i+1) (64*j-(i+1));rw[show i+1+(64*j-(i+1))=64*j by omega]at b;omega
 have e2:i<64*(j+1):=by
  apply Nat.lt_of_not_le;intro c;have a:=h2 j (Nat.le_refl _) (by omega);have b:=ji xs bit (64*(j+1)) (i-64*(j+1));rw[show 64*(j+1)+(i-64*(j+1))=i by omega]at b;omega
 have ei:i=64*j+(i-64*j):=by omega
 refine⟨i-64*j,by omega,?_,by rw[<-ei];exact hi⟩;have w1:=xF xs hf bit j (i-64*j) (by omega) (by rw[<-ei];exact g2);have w2:=qW xs hf bit j (i-64*j) (by omega);rw[<-ei]at w2;unfold iS
 rw[Int.toNat_natCast];have:=sr (wb xs bit j) ((k:Int)-(cB xs bit (64*j):Int)) (i-64*j) w1 (by omega) (i-64*j) 0 (by omega) (by omega);rw[show 64-0=64 from rfl]at this;rw[this]
theorem Gd(xs:List Nat)(hf:aA xs)(j:Nat):Go.bits .xor .u64 18446744073709551615 (gt xs j:Int)=(wb xs false j:Int):=by
 have h:=hf j;rw[vx _ (by omega) (by omega),Int.toNat_natCast];unfold wb;simp
theorem GY(m:Nat)(xs:List Nat)(hf:aA xs)(hk:az (m:Int) xs=true)(hl:xs.length=(m+63)/64)(j r:Nat)(h0:0<r)(h1:r<=64)(h2:64*j+r<=m):
  ff (m:Int) xs (j/8)+fg (m:Int) xs j+dt (gt xs j:Int) (r:Int)=(cntB xs (64*j+r):Int):=by
 have a:=pN m xs hk (64*j) (by omega);have b:=j_ xs j r h1;unfold fg dt;rw[show(64*(j:Int))=((64*j:Nat):Int)by omega,a,b,Int.toNat_natCast,Int.toNat_natCast,show min r 64=r by omega]
 omega
theorem lY(N:Int)(xs:List Nat)(su sb:List Int)(h:pchk N xs su sb=true):∃m:Nat,N=(m:Int)/\m<=1048576/\xs.length=(m+63)/64/\az (m:Int) xs=true/\su=supL (m:Int) xs/\sb=subL (m:Int) xs:=by
 obtain⟨a,b,c⟩:=kK N xs su sb h;obtain⟨m,rfl,h1,h2⟩:=vT N xs a;exact⟨m,rfl,h1,h2,a,b,c⟩
end Bit
open Go.RowKit Num Bit
theorem Fz(m:Nat)(hm:m<=1048576)(ao:Option Addr)(n cap:Nat)(w:World):
  Qq 85 #[.agg #[.int .i64 m,.slice ao n cap]] w (.int .i64 ((m/512+1:Nat):Int)):=by
 go_enter func85,ntmps85;go_wp2;go_ret;exact⟨dc (by omega),below_alloc w _⟩
theorem sL{a:Option Addr}{n k c:Nat}(h:n=k):Ending.returned (.slice a n c)=.returned (.slice a k c):=by rw[h]
theorem xz{w w':World}{b off:Nat}{xs:List Nat}(hb:b<w.heap.size)(hcc:∀i,i<xs.length->w.cell? ⟨b,off+i,none⟩=some (.int .u64 (gt xs i)))(hw:Below w.heap.size w w')(g:Nat):Wd w' (some ⟨b,off+8*g,none⟩) (aZ xs g):=by
 intro h0;refine⟨b,off+8*g,rfl,Nat.lt_of_lt_of_le hb hw.size,fun i hi=>?_⟩;rw[fG]at hi;rw[qA xs g i (by omega),hw.cell (p:=⟨b,off+8*g+i,none⟩) hb,Nat.add_assoc];exact hcc _ (by omega)
theorem xx(w:World)(bo:Option Addr){xs:List Nat}(h:xs.length=0):Wd w bo xs:=fun h0=>absurd h0 (by omega)
def rt(xs:List Nat)(g:Nat)(w:World)(e:Ending)(w':World):Prop:=∃bo bc,e=.returned (.slice bo (aZ xs g).length bc)/\Wd w' bo (aZ xs g)/\Below w.heap.size w w'
theorem rH{xs:List Nat}{g n:Nat}{w w':World}{e:Ending}{bo:Option Addr}{k bc:Nat}(hn:Hid (n=xs.length))(hw:Below w.heap.size w w')(he:e=.returned (.slice bo k bc))(h8:n<=8*g)(hk:k=0):rt xs g w e w':=by
 have h0:(aZ xs g).length=0:=by rw[fG];have:=hn.out;omega
 subst he hk;exact⟨bo,bc,sL h0.symm,xx _ _ h0,hw⟩
theorem rG{xs:List Nat}{g n:Nat}{w w':World}{e:Ending}{b off:Nat}{k bc:Nat}(hn:Hid (n=xs.length))(hx:Hid (Wd w (some ⟨b,off,none⟩) xs))(hw:Below w.heap.size w w')(o2:Nat)(he:e=.returned (.slice (some ⟨b,o2,none⟩) k bc))(h8:8*g<n)(ho:o2=off+8*g)(hk:k=min (8*g+8) n-8*g):rt xs g w e w':=by
 have h0:(aZ xs g).length=k:=by rw[fG];have:=hn.out;omega
 obtain⟨b',off',e2,hb,hcc⟩:=hx.out (by have:=hn.out;omega);simp only[Option.some.injEq,Addr.mk.injEq]at e2;obtain⟨rfl,rfl,_⟩:=e2;subst he ho;exact⟨_,bc,sL h0.symm,xz hb hcc hw g,hw⟩
theorem xp(m:Nat)(hm:m<=1048576)(ao:Option Addr)(xs:List Nat)(cap n g:Nat)(HN:Hid (n=xs.length))(l1:8*g<=n)(l2:n<=16384)(hcap:n<=cap)(w:World)(HX:Hid (Wd w ao xs)):
  Calls prog 86 #[.agg #[.int .i64 m,.slice ao n cap],.int .i64 g] w (rt xs g w):=by
 by_cases h8:n=8*g
 .have d1:(n:Int)<((g:Int)+1)*8:=by omega
  cases ao with
  | none=>
   go_enter func86,ntmps86;go_wp2;all_goals go_ret
   all_goals exact rH HN (below_alloc w _) rfl (by omega) (by omega)
  | some a=>
   go_enter func86,ntmps86;go_wp2;all_goals go_ret
   all_goals exact rH HN (below_alloc w _) rfl (by omega) (by omega)
 .obtain⟨b,off,rfl,hb,hcc⟩:=HX.out (by have:=HN.out;omega);clear hcc hb;have h8':8*g<n:=by omega
  have h9:8*g<cap:=by omega
  by_cases h10:n<8*g+8
  .have d1:(n:Int)<((g:Int)+1)*8:=by omega
   go_enter func86,ntmps86;go_wp2;all_goals go_ret
   all_goals exact rG HN HX (below_alloc w _) _ rfl (by omega) (by omega) (by omega)
  .have d1:¬(n:Int)<((g:Int)+1)*8:=by omega
   have d2:((g:Int)+1)*8<=(n:Int):=by omega
   go_enter func86,ntmps86;go_wp2;all_goals go_ret
   all_goals exact rG HN HX (below_alloc w _) _ rfl (by omega) (by omega) (by omega)
theorem xq(m:Nat)(hm:m<=1048576)(ao:Option Addr)(xs:List Nat)(cap:Nat)(hl:xs.length=(m+63)/64)(hcap:xs.length<=cap)(g:Nat)(hg:g<=m/512)(w:World)(hx:Wd w ao xs):
  Calls prog 86 #[.agg #[.int .i64 m,.slice ao xs.length cap],.int .i64 g] w fun e w'=>∃bo bc,e=.returned (.slice bo (aZ xs g).length bc)/\Wd w' bo (aZ xs g)/\Below w.heap.size w w':=
 xp m hm ao xs cap xs.length g rfl (by omega) (by omega) hcap w hx
theorem uQ:(prog.info? 130).map (fun i=>(i.zero,i.size))=some (some (.agg (iv (List.replicate 8 0)).toArray),8):=by kernel_rfl
theorem rp(l:List Int)(h:l.length=8):(prog.info? 130).map (·.size)=some (iv l).toArray.size:=by
 rw[(zero_of_info uQ).2,List.size_toArray,n_,h]
theorem Cs(l:List Int):(iv l).toArray.all (·.oneCell')=true:=by
 rw[List.all_toArray,List.all_eq_true];intro v hv;obtain⟨a,_,rfl⟩:=List.mem_map.1 hv;rfl
theorem wi{w:World}{g:Nat}{l:List Int}{T:TypeId}(h:aa w g (iv l) T)(j:Nat)(hj:j<l.length):w.cell? ⟨g,j,none⟩=some (.int .i64 (gi l j)):=h.cell j (qs l j hj)
theorem Hy{w:World}{g:Nat}{l:List Int}{T:TypeId}(h:aa w g (iv l) T)(j:Nat)(v:Int):aa (w.setCell ⟨g,j,none⟩ (.int .i64 v)) g (iv (l.set j v)) T:=by
 have:=h.set j (.int .i64 v);rwa [show(iv l).set j (.int .i64 v)=iv (l.set j v)by simp[iv,List.map_set]]at this
theorem rq{ops:Array Oper}{rest:List Oper}{d:Option Tmp}{ty:TypeId}{ps:String}{af:Array Edge}{a:Act}{w:World}{Q:Exit->Act->World->Prop}
  (h:∀w1,aa w1 w.heap.size (iv (List.replicate 8 0)) 130->Below w.heap.size w w1->w.heap.size<w1.heap.size->wpList prog ops Q rest (a.put d (.pointer (some ⟨w.heap.size,0,none⟩))) w1):
  wpList prog ops Q (⟨d,.alloc 130,ty,ps,af,none⟩::rest) a w:=by
 refine wpList_plain rfl fun K hK=>?_;unfold Oper.wp execOp;have z:=(zero_of_info uQ).1;have nw:=h _ (aa.new w _ _) (below_alloc w _) (by simp);refine cast ?_ (hK _ _ nw)
 simp[Instr.alloc,Sem.run_bind,z,newVar,Value.cells,go_sem]
theorem r_{ops:Array Oper}{rest:List Oper}{d:Option Tmp}{ty:TypeId}{ps:String}{af:Array Edge}{a:Act}{w:World}{Q:Exit->Act->World->Prop}{x y:Operand}
  (g:Nat) (old ys:List Int) (hx:a.eval x=.pointer (some ⟨g,0,none⟩)) (hy:a.eval y=.agg (iv ys).toArray) (hc:aa w g (iv old) 130) (lo:old.length=8) (ly:ys.length=8)
  (h:∀w1,aa w1 g (iv ys) 130->aB g w w1->wpList prog ops Q rest (a.put d undef) w1):
  wpList prog ops Q (⟨d,.store 130 x y,ty,ps,af,none⟩::rest) a w:=
 wpList_store_row rfl _ x y rfl g _ hx hy _ _ hc (rp ys ly) (by simp[n_,lo,ly]) (Cs ys) (h _ (setRow_heap w g _ _ _ _ hc) (aB.row g w _))
theorem Eg{ops:Array Oper}{rest:List Oper}{d:Option Tmp}{ty:TypeId}{ps:String}{af:Array Edge}{a:Act}{w:World}{Q:Exit->Act->World->Prop}{x:Operand}
  (g:Nat) (ys:List Int) (hx:a.eval x=.pointer (some ⟨g,0,none⟩)) (hc:aa w g (iv ys) 130) (ly:ys.length=8)
  (h:wpList prog ops Q rest (a.put d (.agg (iv ys).toArray)) w):
  wpList prog ops Q (⟨d,.load 130 x,ty,ps,af,none⟩::rest) a w:=
 wpList_load_row rfl _ x rfl g hx _ _ _ _ hc underlying130 rfl (rp ys ly) h
theorem zR{fn:Func}{p:Tmp}{w:World}{tmps:Array Value}{u:Tmp}(h:fn.results=#[.cell p 130,.tmp u])(g:Nat)(ys:List Int)(ly:ys.length=8)(hp:tmps.getD p undef=.pointer (some ⟨g,0,none⟩))(hc:aa w g (iv ys) 130):
  (results fn tmps).run prog w=.ok (.tuple #[.agg (iv ys).toArray,tmps.getD u undef]) w:=by
 have hp':tmps[p]?.getD undef=.pointer (some ⟨g,0,none⟩):=by simpa using hp
 have hl:=run_loadVar_row (P:=prog) w g 130 130 (iv ys).toArray (0,0) _ hc underlying130 rfl (rp ys ly);simp[results,h,hp',asAddr,hl]
theorem GX(ao:Option Addr)(ws:List Nat)(cap:Nat)(w:World)(hx:Wd w ao ws)(hf:aA ws)(hl:ws.length<=8):
  Qq 87 #[.slice ao ws.length cap] w (.tuple #[.agg (iv (iO ws)).toArray,.int .i64 (cntB ws (64*ws.length):Nat)]):=by
 go_enter func87,ntmps87;go_wp2_with (refine rq ?_);intro w1 hc1 hb1 hs1;go_wp2_with (refine rq ?_);intro w2 hc2 hb2 hs2;have hA:Below w.heap.size w w2:=hb1.trans (hb2.mono (by omega))
 have hR:=hc1.kept hb2;have hlt:w.heap.size<w1.heap.size:=hs1;clear hc1 hb1 hs1 hb2 hs2;generalize w1.heap.size=g at *;simp only[Act.put,ah,List.set];go_wp2
 go_loopw [5,9] (fun t s wr=>∃q:Nat,q<=ws.length/\s=.int .i64 q/\t=.int .i64 (cntB ws (64*q):Nat)/\aa wr g (iv (iP ws q)) 130/\aa wr w.heap.size (iv (List.replicate 8 0)) 130/\Below w.heap.size w wr) (fun _ s _=>ws.length-(intOf s).toNat)
 case atStart=>exact⟨0,Nat.zero_le _,rfl,rfl,by rw[Jh];exact hc2,hR,hA⟩
 case round=>
  obtain⟨q,hq,rfl,rfl,hc,hr,hb⟩:=hrel;clear hc2 hR hA;by_cases hi:q<ws.length
  .have hi2:(q:Int)<(ws.length:Int):=by omega
   have hi3:(q:Int)<8:=by omega
   obtain⟨b,off,rfl,hbl,hcc⟩:=hx (by omega);have e1:=wi hc q (by rw[jY];omega);have fz:=hc.frozen q;have st:=Hy hc q (cntB ws (64*q):Nat);rw[Ji ws q (by omega)]at st
   have hr2:=hr.other (a:=⟨g,q,none⟩) (by show w.heap.size≠g;omega) (.int .i64 (cntB ws (64*q):Nat))
   have hb2:Below w.heap.size w (wr.setCell ⟨g,q,none⟩ (.int .i64 (cntB ws (64*q):Nat))):=hb.setCell (by show w.heap.size<=g;omega) _;have e2:=(hb2.cell (p:=⟨b,off+q,none⟩) hbl).trans (hcc q hi)
   have bd:=gB ws (64*q);have stp:=He ws q;have hfq:=hf q;have hp:Hid (e_ (gt ws q:Int)=((cnt (gt ws q) 64:Nat):Int)):=by show e_ (gt ws q:Int)=_;unfold e_;rw[Int.toNat_natCast]
   have hc64:=dy (gt ws q) 64
   have C:Hid (∀w0,Qx 138 #[.int .u64 (gt ws q:Int)] w0 (.int .i64 ((cnt (gt ws q) 64:Nat):Int))):=by
    intro w0;have:=nB (gt ws q:Int) (Int.natCast_nonneg _) (Int.ofNat_lt.2 hfq) w0;rw[hp.out]at this;exact this
   have HF:Hid (aa (wr.setCell ⟨g,q,none⟩ (.int .i64 (cntB ws (64*q):Nat))) g (iv (iP ws (q+1))) 130/\aa (wr.setCell ⟨g,q,none⟩ (.int .i64 (cntB ws (64*q):Nat))) w.heap.size (iv (List.replicate 8 0)) 130/\Below w.heap.size w (wr.setCell ⟨g,q,none⟩ (.int .i64 (cntB ws (64*q):Nat)))):=⟨st,hr2,hb2⟩
   have HS:Hid (cntB ws (64*(q+1))=cntB ws (64*q)+cnt (gt ws q) 64):=stp;clear st hr2 hb2 hc hr hb hcc hp stp;generalize cnt (gt ws q) 64=D at *;generalize cntB ws (64*q)=Z at *;go_wp2_with fail
   refine(C.out _).mono ?_;rintro e w4 ⟨rfl,rfl⟩;go_wp2;refine⟨⟨q+1,by omega,by go_num,?_,HF.out⟩,by simp only[intOf];omega⟩;rw[HS.out];go_num
  .obtain rfl:q=ws.length:=by omega
   have HB:Hid (Below w.heap.size w wr):=hb;clear hb hx;go_wp2_with (first | refine Eg g _ rfl hc (jY _ _) ?_ | refine r_ w.heap.size _ _ rfl rfl hr (by simp) (jY _ _) ?_);intro w5 hc5 hb5
   have HC:Hid (aa w5 w.heap.size (iv (iO ws)) 130):=hc5;have HB5:Hid (Below w.heap.size w w5):=HB.out.trans (hb5.below (Nat.le_refl _));clear hc5 hb5 hc hr;go_wp2
   (try simp only[Exit.inBlock,Exit.then]);exact bodyPost_ret (zR rfl w.heap.size (iO ws) (od ws) rfl HC.out) rfl ⟨rfl,HB5.out⟩
theorem Fi:(prog.info? 126).map (fun i=>(i.zero,i.size,i.bytes))=some (some (.int .u64 0),1,8):=by kernel_rfl
def jQ(ys:List Nat):List Value:=ys.map fun y:Nat=>Value.int .u64 (y:Int)
theorem qe(ys:List Nat):(jQ ys).length=ys.length:=by simp[jQ]
theorem td(l:List Nat)(i:Nat)(h:i<l.length):(jQ l)[i]?=some (.int .u64 (gt l i)):=by
 unfold jQ;rw[List.getElem?_map,gt_get l i h];rfl
theorem xt{w:World}{base n c:Nat}{ao:Option Addr}{l:List Nat}(h:w.ownsRow base 126 1 (.slice ao n c) n (jQ l)):Wd w ao l:=by
 intro h0;have hlen:(jQ l).length=n*1:=h.1;rw[qe]at hlen;have hk:=fun k hk=>h.lt k hk;have hc:=fun g hg=>h.cells (g:=g) hg;obtain⟨_,⟨e,e2⟩ | ⟨g,cap,cur,e,_⟩⟩:=h
 .omega
 .simp only[Value.slice.injEq]at e;obtain⟨rfl,_,rfl⟩:=e;refine⟨g,0,rfl,(hk g rfl).2,fun i hi=>?_⟩;rw[<-hc g rfl i _ (td l i hi)];unfold Addr.add;split
  .subst_vars;rfl
  .simp
theorem vP(a:Option Addr)(l c:Nat)(w:World):(binOp .eql 51 (.slice a l c) (.slice none 0 0)).run prog w=.ok (.bool a.isNone) w:=by
 simp only[binOp];simp[run_equal_slice_nil w 51 126 a l c underlying51]
theorem Hh(ao:Option Addr)(xs:List Nat)(cap:Nat)(w:World)(hx:Wd w ao xs)(hl:xs.length<=1048576):
  Calls prog 137 #[.slice ao xs.length cap] w fun e w'=>∃bo bc,e=.returned (.slice bo xs.length bc)/\Wd w' bo xs/\xs.length<=bc/\Below w.heap.size w w':=by
 cases ao with
 | none=>
  have h0:xs=[]:=by
   cases xs with
   | nil=>rfl
   | cons a t=>
    obtain⟨b,off,e,_⟩:=hx (by simp);cases e
  subst h0;have hq:=vP none 0 cap;have hq2:(none:Option Addr).isNone=true:=rfl;go_enter func137,ntmps137;go_wp2;go_ret;exact⟨none,0,rfl,cm _ _,Nat.le_refl _,Below.refl _ _⟩
 | some a=>
  obtain⟨i0,hi,hz0,hz1,hz2⟩:=info_parts Fi;have hq:=vP (some a) xs.length cap;have hq2:(some a).isNone=false:=rfl;go_enter func137,ntmps137
  go_wp2_with (at_builtin;refine Ap.wpList_append_u (by rfl) _ _ _ (by rfl) w.heap.size 126 i0 (.int .u64 0) 8 underlying51 hi hz0 hz1 hz2 rfl (.slice (some ⟨w.heap.size,0,none⟩) 0 0) 0 [] (by rfl) ?c0 (some a) xs.length cap (jQ xs) (by rfl) (qe xs) ?c1 ?c2 ?c3 ?c4 ?c5 ?_)
  case c0=>
   exact⟨rfl,.inr ⟨w.heap.size,0,#[],rfl,Nat.le_refl _,aa.new w [] 126,Nat.le_refl _,by simp⟩⟩
  case c1=>
   intro h0;refine⟨a,rfl,fun j u hj=>?_⟩;obtain⟨b,off,e,hlt,hc⟩:=hx h0;obtain rfl:=Option.some.inj e
   have hjl:j<xs.length:=by
    have:=(List.getElem?_eq_some_iff.1 hj).1;rw[qe]at this;exact this
   rw[td xs j hjl]at hj;obtain rfl:=Option.some.inj hj;rw[show(Addr.add ⟨b,off,none⟩ j)=⟨b,off+j,none⟩by unfold Addr.add;split<;>(try subst_vars)<;>rfl]
   rw[(below_alloc w _).cell (p:=⟨b,off+j,none⟩) hlt];exact hc j hjl
  case c2=>intro u hu;obtain⟨y,_,rfl⟩:=List.mem_map.1 hu;rfl
  case c3=>unfold maxLen;omega
  case c4=>omega
  case c5=>simp
  intro bo bc w1 hown hle hb;have hB:Below w.heap.size w w1:=(below_alloc w _).trans hb;have hW:=xt hown;have HF:Hid (Wd w1 bo xs/\xs.length<=bc/\Below w.heap.size w w1):=⟨hW,hle,hB⟩
  clear hown hb hW hB hx hq hi hz0 hz1 hz2;go_wp2;go_ret;exact⟨bo,bc,rfl,HF.out⟩
theorem yS(n:Nat)(hn:n<=1048576)(c1 c2 c3:Addr)(p:Nat->Bool)(w:World)
  (hf:Hid (∀(i:Nat) w0,i<n->Below w.heap.size w w0->Qq 193 #[.int .i64 i,.pointer (some c1),.pointer (some c2),.pointer (some c3)] w0 (.bool (p i)))) (hp:Hid (∀i j,i<=j->p i=true->p j=true)):
  Calls prog 192 #[.int .i64 n,.func (.func 193) #[] #[.pointer (some c1),.pointer (some c2),.pointer (some c3)]] w fun e w'=>∃j:Nat,e=.returned (.int .i64 j)/\j<=n/\(∀i,i<j->p i=false)/\(∀i,j<=i->i<n->p i=true)/\Below w.heap.size w w':=by
 go_enter func192,ntmps192;go_wp2
 go_loopw [5,6] (fun s t wr=>∃i j:Nat,i<=j/\j<=n/\s=.int .i64 i/\t=.int .i64 j/\Hid (∀q,q<i->p q=false)/\Hid (∀q,j<=q->q<n->p q=true)/\Below w.heap.size w wr) (fun s t _=>(intOf t).toNat-(intOf s).toNat)
 case atStart=>exact⟨0,n,by omega,by omega,rfl,rfl,fun q hq=>absurd hq (by omega),fun q h1 h2=>absurd h1 (by omega),Below.refl _ _⟩
 case round=>
  obtain⟨i,j,hij,hj,rfl,rfl,H1,H2,hw⟩:=hrel;by_cases hlt:i<j
  .have hlt2:(i:Int)<(j:Int):=by omega
   have hm:(((i+j)/2:Nat):Int)=((i:Int)+(j:Int))/2:=by omega
   have C:Hid (Qq 193 #[.int .i64 (((i:Int)+(j:Int))/2),.pointer (some c1),.pointer (some c2),.pointer (some c3)] wr (.bool (p ((i+j)/2)))):=by
    have:=hf.out ((i+j)/2) wr (by omega) hw;rw[hm]at this;exact this
   have mu:IntKind.i64.wrap (((i:Int)+(j:Int))/2+1)=((i:Int)+(j:Int))/2+1:=by rw[IntKind.wrap_i64];omega
   clear hf;go_wp2_with fail;refine C.out.mono ?_;rintro e w1 ⟨rfl,hb⟩;have hw1:=bg hw hb;clear hb C;cases hq:p ((i+j)/2)with
   | true=>
    go_wp2;refine⟨⟨i,(i+j)/2,by omega,by omega,rfl,by rw[hm],H1,?_,hw1⟩,by simp only[intOf];omega⟩;intro q h1 h2;exact hp.out _ _ h1 hq
   | false=>
    go_wp2;refine⟨⟨(i+j)/2+1,j,by omega,by omega,by rw[<-hm];rfl,rfl,?_,H2,hw1⟩,by simp only[intOf];omega⟩;intro q h1;cases hq2:p q with
    | false=>rfl
    | true=>
     have:=hp.out q ((i+j)/2) (by omega) hq2;rw[hq]at this;exact this.symm
  .have hlt2:¬(i:Int)<(j:Int):=by omega
   go_wp2;go_ret;exact⟨i,rfl,by omega,H1.out,fun q h1 h2=>H2.out q (by omega) h2,hw⟩
def Jv(N:Int)(xs:List Nat)(w:World)(e:Ending)(w':World):Prop:=∃bo bc,e=.returned (.agg #[.int .i64 N,.slice bo xs.length bc])/\Wd w' bo xs/\xs.length<=bc/\Below w.heap.size w w'
theorem BC(N:Int)(ao:Option Addr)(xs:List Nat)(cap:Nat)(w:World)(hx:Wd w ao xs)(hl:xs.length<=1048576):
  Calls prog 84 #[.agg #[.int .i64 N,.slice ao xs.length cap]] w (Jv N xs w):=by
 go_enter func84,ntmps84;go_wp2;obtain⟨W,hW⟩:∃W,W=(w.alloc (.cells #[.int .i64 N,.slice ao xs.length cap] 53)).alloc (.cells #[.int .i64 0,.slice none 0 0] 53):=⟨_,rfl⟩;have bW:=db hW;have B1:=dh hW
 have B2:=cQ hW;rw[<-hW];clear hW;refine bm [6] (fun w'=>aa w' w.heap.size [.int .i64 N,.slice ao xs.length cap] 53/\aa w' (w.heap.size+1) [.int .i64 0,.slice none 0 0] 53) (by kernel_rfl) ?_
 have hS:aa W.drew w.heap.size [.int .i64 N,.slice ao xs.length cap] 53/\aa W.drew (w.heap.size+1) [.int .i64 0,.slice none 0 0] 53:=⟨B1,B2⟩;have bW2:Below w.heap.size w W.drew:=bW.drew;generalize W.drew=V at *
 clear B1 B2 bW;refine aK 0 hS ?_;refine aF 1 hS rfl (fun w0 h0=>by have c0:=h0.1.cell 0 rfl;go_simp;try with_reducible rfl) ?_;refine aK 2 hS ?_
 refine aF 3 hS rfl (fun w0 h0=>by have c1:=h0.1.cell 1 rfl;go_simp;try with_reducible rfl) ?_;refine aO 4 ?_;intro K hK;go_simp;refine(Hh _ _ _ _ (hx.keep bW2) hl).mono ?_
 rintro e w2 ⟨bo,bc,rfl,hO,hle,hb⟩;have hS2:=And.intro (hS.1.kept hb) (hS.2.kept hb);have bw2:=bg bW2 hb;refine hK.out _ _ (fun _=>hS2) ?_;clear hK K;try simp only[Act.put,ah,aj,ai]
 refine aK 5 hS2 ?_;refine aO 6 ?_;intro K hK;have x0:=hS2.2.cell 0 rfl;have x1:=hS2.2.cell 1 rfl;have f0:=hS2.2.frozen 0;have f1:=hS2.2.frozen 1;go_simp;refine hK.out _ _ (fun h=>absurd (by decide) h) ?_
 clear hK K;try simp only[Act.put,ah,aj,ai]
 refine aw.done (by kernel_rfl) ?_ _;have hC:=(hS2.2.set 0 (.int .i64 N)).set 1 (.slice bo xs.length bc)
 have oW:aB (w.heap.size+1) w2 ((w2.setCell ⟨w.heap.size+1,0,none⟩ (.int .i64 N)).setCell ⟨w.heap.size+1,1,none⟩ (.slice bo xs.length bc)):=((aB.refl _ _).set 0 _).set 1 _
 have hW2:=oW.wd hO (hO.apart hS2.2 (by intro v hv n;simp at hv;rcases hv with rfl | rfl<;>simp))
 have HF:Hid (Wd ((w2.setCell ⟨w.heap.size+1,0,none⟩ (.int .i64 N)).setCell ⟨w.heap.size+1,1,none⟩ (.slice bo xs.length bc)) bo xs/\xs.length<=bc/\Below w.heap.size w ((w2.setCell ⟨w.heap.size+1,0,none⟩ (.int .i64 N)).setCell ⟨w.heap.size+1,1,none⟩ (.slice bo xs.length bc))):=⟨hW2,hle,bw2.trans (oW.below (Nat.le_succ _))⟩
 have k0:=hC.cell 0 rfl;have k1:=hC.cell 1 rfl;clear hW2 oW hC hO hle bw2 hS2 hS hb bW2 x0 x1 f0 f1;go_wp2
 exact bodyPost_ret (v:=.agg #[.int .i64 N,.slice bo xs.length bc]) (by simp[results,Tryz.results84,go_sem,k0,k1]) rfl ⟨bo,bc,rfl,HF.out⟩
structure PB (w3 wr:World) (m n:Nat) (bo:Option Addr) (bc:Nat) (sv tv:Value) (G T:Nat) (xs:List Nat):Prop where
 bx:aa wr w3.heap.size [.int .i64 m,.slice bo n bc,sv,tv] 55
 hb:Below w3.heap.size w3 wr
 o1:wr.ownsRow (w3.heap.size+1) 3 1 sv G (iv (fR (m:Int) xs G))
 o2:wr.ownsRow (w3.heap.size+1) 3 1 tv T (iv (io (m:Int) xs T))
 ap:Ap.Apart sv tv
theorem GN(ao:Option Addr)(l:List Int)(n cap:Nat)(hn:n=l.length)(bo:Option Addr)(m:List Int)(k dap:Nat)(hk:k=m.length)(w:World)(hx:Nd w ao l)(hy:Nd w bo m)(hl:l.length<=1048576):
  Qq 152 #[.slice ao n cap,.slice bo k dap] w (.bool (decide (l=m))):=by
 subst hn hk;by_cases h2:l.length=m.length
 .have h2':((l.length:Int) != (m.length:Int))=false:=by simp[h2]
  have H2:Hid (l.length=m.length):=h2;have h3:l.length<=m.length:=by omega
  clear h2;go_enter func152,ntmps152;go_wp2;go_loopw [13] (fun i wr=>∃k:Nat,k<=l.length/\i=.int .i64 k/\Hid (∀j,j<k->gi l j=gi m j)/\Below w.heap.size w wr) (fun i _=>l.length-(intOf i).toNat)
  case atStart=>exact⟨0,by omega,rfl,fun j hj=>absurd hj (by omega),Below.refl _ _⟩
  case round=>
   obtain⟨k,hk,rfl,H,hw⟩:=hrel;by_cases hlt:k<l.length
   .obtain⟨b,off,rfl,hb,hc⟩:=hx (by omega);obtain⟨d,off2,rfl,hd,hc2⟩:=hy (by omega);have e1:=(hw.cell (p:=⟨b,off+k,none⟩) hb).trans (hc k hlt)
    have e2:=(hw.cell (p:=⟨d,off2+k,none⟩) hd).trans (hc2 k (by omega));have hlt2:k<m.length:=by omega
    have hlt3:(k:Int)<(l.length:Int):=by omega
    have hlt4:(k:Int)<(m.length:Int):=by omega
    clear hc hc2;by_cases hv:gi l k=gi m k
    .have hne:(gi l k != gi m k)=false:=by simp[hv]
     go_wp2;go_quiet (fail);go_wp2;refine⟨⟨k+1,by omega,by go_num,?_,below_drewN hw _⟩,by simp only[intOf];omega⟩;intro j hj;by_cases e:j=k
     .subst e;exact hv
     .exact H.out j (by omega)
    .have hne:(gi l k != gi m k)=true:=by simp[hv]
     have R:Hid (decide (l=m)=false):=by
      show decide (l=m)=false;simp only[decide_eq_false_iff_not];intro e;subst e;exact hv rfl
     go_wp2;go_quiet (fail);go_wp2;go_ret;rw[R.out];exact⟨rfl,below_drewN hw _⟩
   .have R:Hid (decide (l=m)=true):=by
     show decide (l=m)=true;simp only[decide_eq_true_eq];exact jA H2.out (fun i hi=>H.out i (by omega))
    go_wp2;go_ret;rw[R.out];exact⟨rfl,hw⟩
 .have h2':((l.length:Int) != (m.length:Int))=true:=by simp;omega
  have R:Hid (decide (l=m)=false):=by
   show decide (l=m)=false;simp only[decide_eq_false_iff_not];intro e;subst e;exact h2 rfl
  go_enter func152,ntmps152;go_wp2;go_ret;rw[R.out];exact⟨rfl,Below.refl _ _⟩
end Go.Proofs.YtleegaihbgbcjabGreatDoor
