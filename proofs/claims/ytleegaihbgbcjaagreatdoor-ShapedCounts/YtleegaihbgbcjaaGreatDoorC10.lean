import Derived.Test.YtleegaihbgbcjaaGreatDoorC05
import Derived.RangeFuncCalls
import Derived.Shelf.Abstract
import Derived.OwnWalkIn
import Derived.TacticsInMore
import Derived.LoopNIn
import Derived.LoopIn
set_option linter.unusedVariables false
set_option linter.unusedSimpArgs false
set_option maxRecDepth 100000
set_option maxHeartbeats 16000000
open Go.Proofs.Tryz
namespace Go.Proofs.YtleegaihbgbcjaaGreatDoor
open Go.RowKit Num Bit
end Go.Proofs.YtleegaihbgbcjaaGreatDoor
namespace Go.Proofs.YtleegaihbgbcjaaGreatDoor
open Go.RowKit Num Bn
namespace Ow
theorem below_alloc(w:World)(o:Obj):Below w.heap.size w (w.alloc o):=(Below.refl _ _).alloc (Nat.le_refl _) _
def gt(xs:List Nat)(i:Nat):Nat:=xs.getD i 0
theorem gt_get(xs:List Nat)(i:Nat)(h:i<xs.length):xs[i]?=some (gt xs i):=by
 unfold gt;rw[List.getD_eq_getElem?_getD,List.getElem?_eq_getElem h];rfl
theorem gt_map(f:Nat->Nat)(n i:Nat)(h:i<n):gt ((List.range n).map f) i=f i:=by
 unfold gt;rw[List.getD_eq_getElem?_getD,List.getElem?_map,List.getElem?_range h];rfl
theorem gt_set(ys:List Nat)(j i v:Nat)(hj:j<ys.length):gt (ys.set j v) i=if j=i then v else gt ys i:=by
 unfold gt;rw[List.getD_eq_getElem?_getD,List.getD_eq_getElem?_getD,List.getElem?_set];by_cases c:j=i
 .subst c;simp[hj]
 .simp[c]
theorem list_ext{xs ys:List Nat}(hl:xs.length=ys.length)(h:∀i,i<xs.length->gt xs i=gt ys i):xs=ys:=by
 refine List.ext_getElem? fun i=>?_;by_cases c:i<xs.length
 .rw[gt_get xs i c,gt_get ys i (by omega),h i c]
 .rw[List.getElem?_eq_none (by omega),List.getElem?_eq_none (by omega)]
def wv(ys:List Nat):List Value:=ys.map fun y:Nat=>Value.int .u64 (y:Int)
theorem length_wv(ys:List Nat):(wv ys).length=ys.length:=by simp[wv]
def Own(w:World)(g:Nat)(ys:List Nat):Prop:=w.heap[g]?=some (.cells (wv ys).toArray 81 (0,0))
theorem own_made{w:World}{base g n:Nat}(h:w.ownsRow base 81 1 (.slice (some ⟨g,0,none⟩) n n) n (madeCells #[.int .u64 0] n).toList):Own w g (List.replicate n 0):=by
 obtain⟨_,h | ⟨g',cap,cur,e,_,hh,_,_,hs,ht⟩⟩:=h
 .simp at h
 .simp only[Value.slice.injEq,Option.some.injEq,Addr.mk.injEq]at e;obtain⟨⟨rfl,_,_⟩,_,rfl⟩:=e;unfold Own;rw[hh]
  have e2:(madeCells #[.int .u64 0] n).toList=wv (List.replicate n 0):=by
   rw[toList_madeCells_one (.int .u64 0) n,wv,List.map_replicate];rfl
  rw[e2]at ht;have e3:cur.toList.take (n*1)=cur.toList:=List.take_of_length_le (by simp;omega);rw[e3]at ht;rw[<-ht]
theorem Own.cell{w:World}{g:Nat}{ys:List Nat}(h:Own w g ys)(j:Nat)(hj:j<ys.length):w.cell? ⟨g,j,none⟩=some (.int .u64 (gt ys j)):=by
 unfold World.cell?;rw[show w.heap[({ block:=g,off:=j,spot:=none }:Addr).block]?=_ from h];simp only[List.getElem?_toArray,wv,List.getElem?_map,gt_get ys j hj];rfl
theorem Own.frozen{w:World}{g:Nat}{ys:List Nat}(h:Own w g ys)(j:Nat):w.frozen? ⟨g,j,none⟩=false:=by
 unfold World.frozen?;rw[show w.heap[({ block:=g,off:=j,spot:=none }:Addr).block]?=_ from h];simp
theorem Own.lt{w:World}{g:Nat}{ys:List Nat}(h:Own w g ys):g<w.heap.size:=(Array.getElem?_eq_some_iff.1 h).1
theorem Own.set{w:World}{g:Nat}{ys:List Nat}(h:Own w g ys)(j v:Nat):Own (w.setCell ⟨g,j,none⟩ (.int .u64 v)) g (ys.set j v):=by
 unfold Own at h⊢;simp only[World.setCell,Array.getElem?_modify];rw[if_pos trivial,h];simp[wv,List.map_set]
theorem Own.drew{w:World}{g:Nat}{ys:List Nat}(h:Own w g ys):Own w.drew g ys:=h
def rowP(n i:Nat):List Nat:=(List.range (n+1)).map (ch i)
def ed(n i j:Nat):List Nat:=(List.range (n+1)).map fun t=>if j<t then ch i t else ch (i-1) t
theorem gh(n i j:Nat):(ed n i j).length=n+1:=by simp[ed]
theorem length_rowP(n i:Nat):(rowP n i).length=n+1:=by simp[rowP]
theorem ui(n i:Nat):ed n i i=rowP n (i-1):=by
 unfold ed rowP;refine List.map_congr_left fun t _=>?_;by_cases c:i<t
 .rw[if_pos c,k5 i t c,k5 (i-1) t (by omega)]
 .rw[if_neg c]
theorem uh(n i:Nat):ed n i 0=rowP n i:=by
 unfold ed rowP;refine List.map_congr_left fun t _=>?_;by_cases c:0<t
 .rw[if_pos c]
 .obtain rfl:t=0:=by omega
  rw[if_neg c,iu,iu]
theorem jV(n i j t:Nat)(h:t<=n):gt (ed n i j) t=if j<t then ch i t else ch (i-1) t:=gt_map _ _ _ (by omega)
theorem ow(n i t:Nat)(h:t<=n):gt (rowP n i) t=ch i t:=gt_map _ _ _ (by omega)
theorem Cj(n i j:Nat)(hi:1<=i)(hj:1<=j)(hn:j<=n):(ed n i j).set j (ch (i-1) j+ch (i-1) (j-1))=ed n i (j-1):=by
 refine list_ext (by rw[List.length_set,gh,gh]) fun t ht=>?_;rw[List.length_set,gh]at ht;rw[gt_set _ _ _ _ (by rw[gh];omega),jV _ _ _ _ (by omega),jV _ _ _ _ (by omega)]
 by_cases c:j=t
 .subst c;obtain⟨a,rfl⟩:∃a,i=a+1:=⟨i-1,by omega⟩;obtain⟨b,rfl⟩:∃b,j=b+1:=⟨j-1,by omega⟩;rw[if_pos rfl,if_pos (by omega),gM,Nat.add_sub_cancel,Nat.add_sub_cancel];omega
 .rw[if_neg c];by_cases d:j<t
  .rw[if_pos d,if_pos (by omega)]
  .rw[if_neg d,if_neg (by omega)]
theorem AB(n:Nat):(List.replicate (n+1) 0).set 0 1=rowP n 0:=by
 refine list_ext (by rw[List.length_set,length_rowP,List.length_replicate]) fun t ht=>?_;rw[List.length_set,List.length_replicate]at ht;rw[gt_set _ _ _ _ (by simp),ow _ _ _ (by omega)];by_cases c:0=t
 .subst c;rw[if_pos rfl,iu]
 .rw[if_neg c,k5 0 t (by omega)];unfold gt;rw[List.getD_eq_getElem?_getD,List.getElem?_replicate];split<;>rfl
end Ow
namespace Ow
end Ow
namespace Ow
theorem shl_one(k:Nat)(h:k<64):IntKind.u64.wrap ((2:Int)^k)=((2^k:Nat):Int):=by
 have e:((2:Int)^k)=((2^k:Nat):Int):=by rw[Int.natCast_pow];rfl
 have:=iW k h;rw[e,IntKind.wrap_u64];generalize (2^k:Nat)=Z at *;omega
theorem Cq(X p:Nat)(h:X%2^(p+1)=0):X|||2^p=X+2^p:=by
 have e:X=2^(p+1)*(X/2^(p+1)):=by
  have:=Nat.div_add_mod X (2^(p+1));omega
 have lt:2^p<2^(p+1):=by rw[Nat.pow_succ];have:=Nat.two_pow_pos p;omega
 rw[e];exact(Nat.two_pow_add_eq_or_of_lt lt _).symm
theorem uC(X p:Nat)(h:X%2^(p+1)=0):X%2^p=0:=by
 have:=uD X p;have:=Nat.two_pow_pos p;omega
theorem Dr(X p:Nat)(h:X%2^(p+1)=0):(X+2^p)%2^p=0:=by
 rw[Nat.add_mod_right];exact uC X p h
end Ow
open Go.RowKit Num Bit Bn
theorem D2(N:Nat)(M:Int)(ys:List Nat):∀l a out r,out.length<=N->ju N M ys l a out=some r->r.length<=N:=by
 intro l;induction l with
 | nil=>intro a out r h e;simp only[ju,Option.some.injEq]at e;subst e;exact h
 | cons k l ih=>
  intro a out r h e;rw[ju]at e;split at e
  .refine ih _ _ r ?_ e;unfold o0;rw[List.length_append,uY];omega
  .cases e
end Go.Proofs.YtleegaihbgbcjaaGreatDoor
namespace Go.Proofs.YtleegaihbgbcjaaGreatDoor
open Num Bit Bn
theorem ur(l:List Nat)(W:Nat)(hW:1<=W)(hl:∀i,gt l i<2^W)(i:Nat)(hi:i<l.length):numAt W (mkS l W l.length) i=gt l i:=by
 unfold numAt;refine(ii W (gt l i) _ fun k=>?_).symm;by_cases c:k<W
 .unfold mkS
  have e1:(i*W+k)/W=i:=by
   rw[Nat.mul_comm,Nat.mul_add_div (by omega),Nat.div_eq_of_lt c];omega
  have e2:(i*W+k)%W=k:=by rw[Nat.mul_comm,Nat.mul_add_mod,Nat.mod_eq_of_lt c]
  have e3:i*W+k<l.length*W:=by
   have:=mc l.length W i hi;omega
  rw[eF,e1,e2];simp[c,e3]
 .have:gt l i<2^k:=Nat.lt_of_lt_of_le (hl i) (Nat.pow_le_pow_right (by decide) (by omega));rw[Nat.testBit_lt_two_pow this];simp[c]
theorem vU(l:List Nat)(W:Nat)(hW:1<=W)(hW2:W<=64)(hl:l.length*W<=1048576):aZ (l.length:Int) (W:Int) ((l.length*W:Nat):Int) (mkS l W l.length)=true:=by
 unfold aZ;rw[Bool.and_eq_true,decide_eq_true_eq];refine⟨⟨by omega,by omega,by omega,by rw[Int.natCast_mul]⟩,?_⟩;exact dO _ _ hl
theorem oz(m:Nat)(f:Nat->Bool)(n i:Nat)(h:i<n):gt (dQ m f n) i=bcl m f i:=by
 unfold dQ gt;rw[List.getD_eq_getElem?_getD,List.getElem?_map,List.getElem?_range h];rfl
theorem xG(m:Nat)(f:Nat->Bool)(n i:Nat):gt (dQ m f n) i<2^4:=by
 by_cases c:i<n
 .rw[oz m f n i c];have:=iS m f i;omega
 .rw[jq _ _ (by rw[gj];omega)];decide
theorem gJ(m:Nat)(hm:m<=1048576):nb m<=69906:=by unfold nb;omega
theorem DX(m:Nat)(f:Nat->Bool):(List.range (nb m)).map (numAt 4 (mkS (dQ m f (nb m)) 4 (nb m)))=dQ m f (nb m):=by
 unfold dQ;refine List.map_congr_left fun i hi=>?_;have hi:=List.mem_range.1 hi;have:=ur (dQ m f (nb m)) 4 (by decide) (xG m f (nb m)) i (by rw[gj];exact hi)
 rw[gj,oz m f _ i hi]at this;unfold dQ at this;exact this
theorem kV(m:Nat)(f:Nat->Bool):frL (eD m f (nb m))=rowOf (bat m f (nb m)) fun j=>(eD m f (nb m)).getD j false:=by
 unfold frL;rw[mp];rfl
theorem Gs(m:Nat)(f:Nat->Bool):frL ((List.range m).map f)=rowOf m f:=by
 unfold frL;rw[List.length_map,List.length_range];refine dd m _ _ fun i hi=>?_;unfold bt;rw[List.getD_eq_getElem?_getD,List.getElem?_map,List.getElem?_range hi];rfl
theorem G5(m:Nat)(f:Nat->Bool)(hm:m<=1048576):
  ju m (bat m f (nb m)) (frL (eD m f (nb m))) ((List.range (nb m)).map (numAt 4 (mkS (dQ m f (nb m)) 4 (nb m)))) 0 []=some ((List.range m).map f):=by
 rw[DX,kV];have h:=GZ m f (bat m f (nb m)) _ (tH m f hm) (nb m) 0 (by omega);rw[show min (15*0) m=0 by omega]at h;rw[<-List.range_eq_range']at h;exact h
open Go.RowKit Num Bit Bn
theorem FD:(prog.info? 3).map (fun i=>(i.zero,i.size,i.bytes))=some (some (.int .i64 0),1,8):=by kernel_rfl
def cG(l:List Int):List Value:=l.map fun n:Int=>Value.int .i64 n
def df(m:Nat)(f:Nat->Bool)(G:Nat):List Int:=(List.range G).map fun j=>(bon m f (8*j):Int)
def de(m:Nat)(f:Nat->Bool)(G:Nat):List Int:=(List.range G).map fun j=>(bat m f (8*j):Int)
theorem pZ(m:Nat)(f:Nat->Bool)(G:Nat):cG (df m f G)++[.int .i64 (bon m f (8*G))]=cG (df m f (G+1)):=by
 unfold df cG;rw[List.range_succ,List.map_append,List.map_append];rfl
theorem pR(m:Nat)(f:Nat->Bool)(G:Nat):cG (de m f G)++[.int .i64 (bat m f (8*G))]=cG (de m f (G+1)):=by
 unfold de cG;rw[List.range_succ,List.map_append,List.map_append];rfl
structure R8 (w wr:World) (m n cap:Nat) (ao:Option Addr) (g:Nat) (ov pv:Value):Prop where
 b1:aa wr w.heap.size [.int .i64 m,.slice ao n cap] 33
 b2:aa wr (w.heap.size+1) [.int .i64 0,.int .i64 0,.int .i64 0,.int .i64 0,.slice none 0 0,.int .i64 0,.slice none 0 0,.slice none 0 0,.slice none 0 0] 40
 bx:aa wr g [.int .i64 m,.int .i64 0,.int .i64 0,.int .i64 0,.slice none 0 0,.int .i64 0,.slice none 0 0,ov,pv] 40
 hg:w.heap.size+1<g
 hw:Below w.heap.size w wr
structure RW (wr:World) (b:Nat) (cv fv ov pv:Value) (p1 p2 G1 G2 m:Nat) (f:Nat->Bool):Prop where
 c:wr.ownsRow b 81 1 cv p1 (wv (dQ m f p1))
 o:wr.ownsRow b 4 1 fv (bat m f p2) (I1 (eD m f p2))
 n:wr.ownsRow b 3 1 ov G1 (cG (df m f G1))
 t:wr.ownsRow b 3 1 pv G2 (cG (de m f G2))
 co:Ap.Apart cv fv
 cn:Ap.Apart cv ov
 ct:Ap.Apart cv pv
 on:Ap.Apart fv ov
 ot:Ap.Apart fv pv
 nt:Ap.Apart ov pv
theorem nC{w:World}{base e n:Nat}{v u:Value}{vs:List Value}{a:Addr}(h:w.ownsRow base e 1 v n vs)(ha:a.block<base):(w.setCell a u).ownsRow base e 1 v n vs:=by
 obtain⟨h1,h2 | ⟨g,cap,cur,e1,e2,hh,r⟩⟩:=h
 .exact⟨h1,.inl h2⟩
 .exact⟨h1,.inr ⟨g,cap,cur,e1,e2,(Below.heap_setCell w a u g (by omega)).trans hh,r⟩⟩
def rwN(o:Option (List Bool)):Nat:=(o.map List.length).getD 0
def i7(o:Option (List Bool)):List Nat:=(o.map frL).getD []
def gN(m:Nat):Nat:=(max 1 (nb m)+7)/8
def rC(m:Nat)(f:Nat->Bool):List Nat:=mkS (dQ m f (nb m)) 4 (nb m)
def rO(m:Nat)(f:Nat->Bool):List Nat:=frL (eD m f (nb m))
def rS(m:Nat)(f:Nat->Bool):List Int:=df m f (gN m)
def rT(m:Nat)(f:Nat->Bool):List Int:=de m f (gN m)
structure RO (base:Nat) (w:World) (C O:List Nat) (S T:List Int) (bo:Option Addr) (bc:Nat) (qo:Option Addr) (qc:Nat) (so:Option Addr) (sc:Nat) (tO:Option Addr) (tc:Nat):Prop where
 c:Wd w bo C
 cl:C.length<=bc
 o:Wd w qo O
 ol:O.length<=qc
 s:Nd w so S
 sl:S.length<=sc
 t:Nd w tO T
 tl:T.length<=tc
 sn:Fr base so
 tn:Fr base tO
theorem ku(m:Nat)(f:Nat->Bool)(G:Nat):(df m f G).length=G:=by simp[df]
theorem mj(m:Nat)(f:Nat->Bool)(G:Nat):(de m f G).length=G:=by simp[de]
theorem km{w:World}{base n c:Nat}{ao:Option Addr}{l:List Int}(h:w.ownsRow base 3 1 (.slice ao n c) n (cG l)):Nd w ao l:=by
 intro h0;have hlen:(cG l).length=n*1:=h.1;have hl:l.length=n:=by simp[cG]at hlen;omega
 have hk:=fun k hk=>h.lt k hk;have hc:=fun g hg=>h.cells (g:=g) hg;obtain⟨_,⟨e,e2⟩ | ⟨g,cap,cur,e,_⟩⟩:=h
 .omega
 .simp only[Value.slice.injEq]at e;obtain⟨rfl,_,rfl⟩:=e;refine⟨g,0,rfl,(hk g rfl).2,fun i hi=>?_⟩
  have hu:(cG l)[i]?=some (.int .i64 (gi l i)):=by
   unfold cG gi;rw[List.getElem?_map,List.getD_eq_getElem?_getD,List.getElem?_eq_getElem hi];rfl
  rw[<-hc g rfl i _ hu];unfold Addr.add;split
  .subst_vars;rfl
  .simp
theorem Fu:(prog.info? 40).map (·.size)=some 9:=by kernel_rfl
theorem Hid.mk8{p:Prop}(h:p):Hid p:=h
end Go.Proofs.YtleegaihbgbcjaaGreatDoor
namespace Go.Proofs.YtleegaihbgbcjaaGreatDoor
open Num Bit
def ax(n:Int):Prop:= -9223372036854775808<=n/\n<=9223372036854775807
def gaE(ok:Bool)(N:Int)(X:List Nat)(i:Int):Int:=if ok then cH N X i else 2
def gaB(ok:Bool)(N:Int)(X:List Nat)(i:Int):Bool:=ok&&dh N X i
def grE(ok:Bool)(N:Int)(i:Int):Int:=if ok then (if i<0\/N<i then 3 else 0)else 2
def grN(ok:Bool)(N:Int)(X:List Nat)(bit:Bool)(i:Int):Int:=if grE ok N i=0 then (cB X bit i.toNat:Int)else 0
def gsE(ok:Bool)(N:Int)(X:List Nat)(bit:Bool)(k:Int):Int:=if ok then (if (cd N X bit k).isSome then 0 else 3)else 2
def gsX(ok:Bool)(N:Int)(X:List Nat)(bit:Bool)(k:Int):Int:=if ok then ((cd N X bit k).getD 0:Int)else 0
open Num Bit Bn
def rDec(N k V:Int)(xs:List Nat)(L:Int)(ys:List Nat):Option (List Bool):=ju N.toNat L ys ((List.range k.toNat).map (numAt V.toNat xs)) 0 []
def kg(N k V M:Int)(xs:List Nat)(L:Int)(ys:List Nat)(S T:List Int)(m:Nat)(f:Nat->Bool):Bool:=
 decide (N=m)&&((decide (k=nb m)&&(decide (V=4)&&(decide (M=(nb m:Int)*4)&&decide (xs=rC m f))))&&((decide (L=bat m f (nb m))&&decide (ys=rO m f))&&(decide (S=rS m f)&&decide (T=rT m f))))
def eb(N k V M:Int)(xs:List Nat)(L:Int)(ys:List Nat)(S T:List Int):Bool:=
 (decide (0<=N/\N<=1048576)&&(aZ k V M xs&&ar L ys))&&kg N k V M xs L ys S T (rwN (rDec N k V xs L ys)) (bitAt (i7 (rDec N k V xs L ys)))
def jJ(N k V M:Int)(xs:List Nat)(L:Int)(ys:List Nat)(S T:List Int):Int:=if eb N k V M xs L ys S T then (rwN (rDec N k V xs L ys):Int)else 0
def i_(N k V M:Int)(xs:List Nat)(L:Int)(ys:List Nat)(S T:List Int):List Nat:=if eb N k V M xs L ys S T then i7 (rDec N k V xs L ys)else []
def m_(N k V M:Int)(xs:List Nat)(L:Int)(ys:List Nat)(S T:List Int):Int:=if eb N k V M xs L ys S T then M+L+64*(S.length:Int)else 0
theorem Aw(o:Option (List Bool))(h:∀l,o=some l->l.length<=1048576):ar (rwN o:Int) (i7 o)=true:=by
 cases o with
 | none=>decide
 | some l=>exact dO _ _ (h l rfl)
theorem Av(o:Option (List Bool)):Fit (i7 o):=by
 cases o with
 | none=>intro i;unfold gt;simp[i7]
 | some l=>exact db _ _
theorem A6(N k V:Int)(xs:List Nat)(L:Int)(ys:List Nat)(hN:N<=1048576):∀l,rDec N k V xs L ys=some l->l.length<=1048576:=by
 intro l h;have:=D2 N.toNat L ys _ 0 [] l (by simp) h;omega
theorem nh(N k V M:Int)(xs:List Nat)(L:Int)(ys:List Nat)(S T:List Int)(h:eb N k V M xs L ys S T=true):
  (0<=N/\N<=1048576)/\aZ k V M xs=true/\ar L ys=true/\kg N k V M xs L ys S T (rwN (rDec N k V xs L ys)) (bitAt (i7 (rDec N k V xs L ys)))=true:=by
 unfold eb at h;simp only[Bool.and_eq_true,decide_eq_true_eq]at h;exact⟨h.1.1,h.1.2.1,h.1.2.2,h.2⟩
theorem A9(N k V M:Int)(xs:List Nat)(L:Int)(ys:List Nat)(S T:List Int)(h:eb N k V M xs L ys S T=true):ar (jJ N k V M xs L ys S T) (i_ N k V M xs L ys S T)=true:=by
 obtain⟨h1,_,_,_⟩:=nh _ _ _ _ _ _ _ _ _ h;unfold jJ i_;rw[if_pos h,if_pos h];exact Aw _ (A6 N k V xs L ys h1.2)
theorem A8(N k V M:Int)(xs:List Nat)(L:Int)(ys:List Nat)(S T:List Int):Fit (i_ N k V M xs L ys S T):=by
 unfold i_;split
 .exact Av _
 .intro i;unfold gt;simp
theorem tL(N k V M:Int)(xs:List Nat)(L:Int)(ys:List Nat)(S T:List Int)(m:Nat)(f:Nat->Bool)(h:kg N k V M xs L ys S T m f=true):
  N=m/\k=nb m/\V=4/\M=(nb m:Int)*4/\xs=rC m f/\L=bat m f (nb m)/\ys=rO m f/\S=rS m f/\T=rT m f:=by
 unfold kg at h;simp only[Bool.and_eq_true,decide_eq_true_eq]at h;obtain⟨h1,⟨h2,h3,h4,h5⟩,⟨h6,h7⟩,h8,h9⟩:=h;exact⟨h1,h2,h3,h4,h5,h6,h7,h8,h9⟩
theorem A5(m:Nat)(f:Nat->Bool):kg m (nb m) 4 ((nb m:Int)*4) (rC m f) (bat m f (nb m)) (rO m f) (rS m f) (rT m f) m f=true:=by
 unfold kg;simp
theorem A7(m:Nat)(f:Nat->Bool)(hm:m<=1048576):rDec m (nb m) 4 (rC m f) (bat m f (nb m)) (rO m f)=some ((List.range m).map f):=by
 unfold rDec rC rO;rw[Int.toNat_natCast,Int.toNat_natCast];exact G5 m f hm
end Go.Proofs.YtleegaihbgbcjaaGreatDoor
namespace Go.Proofs.YtleegaihbgbcjaaGreatDoor
open Go.RowKit Num Bit
theorem ni:(prog.info? 33).map (·.size)=some 2:=by kernel_rfl
open Go.RowKit Num Bit Bn
def fP(N:Int)(xs:List Nat):Int:=if ar N xs then N else 0
def fQ(N:Int)(xs:List Nat):Int:=if ar N xs then (nb N.toNat:Int)else 0
def fN(N:Int)(xs:List Nat):Int:=if ar N xs then 4 else 0
def eW(N:Int)(xs:List Nat):Int:=if ar N xs then (nb N.toNat:Int)*4 else 0
def d_(N:Int)(xs:List Nat):List Nat:=if ar N xs then rC N.toNat (bitAt xs)else []
def eX(N:Int)(xs:List Nat):Int:=if ar N xs then (bat N.toNat (bitAt xs) (nb N.toNat):Int)else 0
def dZ(N:Int)(xs:List Nat):List Nat:=if ar N xs then rO N.toNat (bitAt xs)else []
def dH(N:Int)(xs:List Nat):List Int:=if ar N xs then rS N.toNat (bitAt xs)else []
def dY(N:Int)(xs:List Nat):List Int:=if ar N xs then rT N.toNat (bitAt xs)else []
def na(N:Int)(xs:List Nat):Int:=if ar N xs then 0 else 2
structure Kh (w:World) (N k V M:Int) (ao:Option Addr) (xs:List Nat) (cap:Nat) (L:Int) (qo:Option Addr) (ys:List Nat) (dap:Nat) (so:Option Addr) (S:List Int) (sc:Nat) (tO:Option Addr) (T:List Int) (tc:Nat):Prop where
 x:Wd w ao xs
 xf:Fit xs
 xc:xs.length<=cap
 y:Wd w qo ys
 yf:Fit ys
 yc:ys.length<=dap
 s:Nd w so S
 sl:S.length<=1048576
 sc:S.length<=sc
 t:Nd w tO T
 tl:T.length<=1048576
 tc:T.length<=tc
def Tb(w:World)(b:Nat)(cs:List Value):Prop:=∃T,aa w b cs T
theorem Tb.lt{w:World}{b:Nat}{cs:List Value}(h:Tb w b cs):b<w.heap.size:=by
 obtain⟨T,h⟩:=h;exact h.lt
theorem Tb.cell{w:World}{b:Nat}{cs:List Value}(h:Tb w b cs)(i:Nat){v:Value}(hv:cs[i]?=some v):w.cell? ⟨b,i,none⟩=some v:=by
 obtain⟨T,h⟩:=h;exact h.cell i hv
theorem Tb.keep{w w':World}{b base:Nat}{cs:List Value}(h:Tb w b cs)(hb:Below base w w')(hlt:b<base):Tb w' b cs:=by
 obtain⟨T,h⟩:=h;exact⟨T,h.keep hb hlt⟩
theorem Tb.kept{w w':World}{b:Nat}{cs:List Value}(h:Tb w b cs)(hb:Below w.heap.size w w'):Tb w' b cs:=h.keep hb h.lt
theorem Tb.other{w:World}{b:Nat}{cs:List Value}(h:Tb w b cs){a:Addr}(ha:b≠a.block)(v:Value):Tb (w.setCell a v) b cs:=by
 obtain⟨T,h⟩:=h;exact⟨T,h.other ha v⟩
def vI(l:List Nat):List Value:=l.map fun n:Nat=>Value.int .i64 (n:Int)
theorem pk(l:List Nat)(i:Nat)(h:i<l.length):(vI l)[i]?=some (.int .i64 (gt l i)):=by
 unfold vI;rw[List.getElem?_map,gt_get l i h];rfl
theorem xR(l:List Nat)(i:Nat)(h:i<l.length):(wv l)[i]?=some (.int .u64 (gt l i)):=by
 unfold wv;rw[List.getElem?_map,gt_get l i h];rfl
def bj:List Nat:=[0,4,7,9,11,12,13,13,13,13,12,11,9,7,4,0]
def gO:List Nat:=[1,15,105,455,1365,3003,5005,6435,6435,5005,3003,1365,455,105,15,1]
theorem qm:bj.length=16:=rfl
theorem D3:gO.length=16:=rfl
theorem qF(c:Nat)(h:c<=15):gt bj c=kwd c:=by
 match c,h with
 | 0,_ | 1,_ | 2,_ | 3,_ | 4,_ | 5,_ | 6,_ | 7,_ | 8,_ | 9,_ | 10,_ | 11,_ | 12,_ | 13,_ | 14,_ | 15,_=>decide +kernel
theorem FR(c:Nat)(h:c<=15):gt gO c=ch 15 c:=by
 match c,h with
 | 0,_ | 1,_ | 2,_ | 3,_ | 4,_ | 5,_ | 6,_ | 7,_ | 8,_ | 9,_ | 10,_ | 11,_ | 12,_ | 13,_ | 14,_ | 15,_=>decide +kernel
structure GV (w:World):Prop where
 wd:Tb w 0 (vI bj)
 wy:Tb w 1 (wv gO)
theorem GV.keep{w w':World}(h:GV w)(hb:Below w.heap.size w w'):GV w':=⟨h.wd.kept hb,h.wy.kept hb⟩
theorem GV.kept{w w':World}(h:GV w)(hb:Below w.heap.size w w'):GV w':=h.keep hb
theorem GV.two{w:World}(h:GV w):1<w.heap.size:=by
 have:=h.wd.lt;have:=h.wy.lt;omega
structure aE where
 N:Int
 k:Int
 V:Int
 M:Int
 xs:List Nat
 L:Int
 ys:List Nat
 S:List Int
 T:List Int
def dU(w:World)(cs:List Value)(a:aE):Prop:=∃ao cap qo dap so sc tO tc,cs=[.int .i64 a.N,.int .i64 a.k,.int .i64 a.V,.int .i64 a.M,.slice ao a.xs.length cap,.int .i64 a.L,.slice qo a.ys.length dap,.slice so a.S.length sc,.slice tO a.T.length tc]/\(ax a.N/\ax a.k/\ax a.V/\ax a.M/\ax a.L/\eI a.S/\eI a.T)/\Wd w ao a.xs/\Fit a.xs/\a.xs.length<=cap/\Wd w qo a.ys/\Fit a.ys/\a.ys.length<=dap/\Nd w so a.S/\a.S.length<=sc/\Nd w tO a.T/\a.T.length<=tc
structure ba (w:World) (cs:List Value) (a:aE):Prop where
 arg:dU w cs a
 xl:a.xs.length<=1048576
 yl:a.ys.length<=1048576
 sl:a.S.length<=1048576
 tl:a.T.length<=1048576
 gv:GV w
theorem dU.keep{w w':World}{cs:List Value}{a:aE}(h:dU w cs a)(hb:Below w.heap.size w w'):dU w' cs a:=by
 obtain⟨ao,cap,qo,dap,so,sc,tO,tc,e,f,a1,a2,a3,a4,a5,a6,a7,a8,a9,a10⟩:=h;exact⟨ao,cap,qo,dap,so,sc,tO,tc,e,f,a1.keep hb,a2,a3,a4.keep hb,a5,a6,a7.keep hb,a8,a9.keep hb,a10⟩
theorem ba.keep{w w':World}{cs:List Value}{a:aE}(h:ba w cs a)(hb:Below w.heap.size w w'):ba w' cs a:=⟨h.arg.keep hb,h.xl,h.yl,h.sl,h.tl,h.gv.keep hb⟩
theorem dU.len{w:World}{cs:List Value}{a:aE}(h:dU w cs a):(prog.info? 40).map (·.size)=some cs.length:=by
 obtain⟨ao,cap,qo,dap,so,sc,tO,tc,rfl,_⟩:=h;exact Fu
theorem dU.nine{w:World}{cs:List Value}{a:aE}(h:dU w cs a):9=cs.length:=by
 obtain⟨ao,cap,qo,dap,so,sc,tO,tc,rfl,_⟩:=h;rfl
theorem dU.one{w:World}{cs:List Value}{a:aE}(h:dU w cs a):cs.toArray.all (·.oneCell')=true:=by
 obtain⟨ao,cap,qo,dap,so,sc,tO,tc,rfl,_⟩:=h;simp[Value.oneCell']
def kOk8(a:aE):Bool:=eb a.N a.k a.V a.M a.xs a.L a.ys a.S a.T
def kBN8(a:aE):Int:=jJ a.N a.k a.V a.M a.xs a.L a.ys a.S a.T
def kBX8(a:aE):List Nat:=i_ a.N a.k a.V a.M a.xs a.L a.ys a.S a.T
def kZ8(a:aE):Int:=m_ a.N a.k a.V a.M a.xs a.L a.ys a.S a.T
def kB8(N:Int)(xs:List Nat):aE:=⟨fP N xs,fQ N xs,fN N xs,eW N xs,d_ N xs,eX N xs,dZ N xs,dH N xs,dY N xs⟩
def kE8(N:Int)(xs:List Nat):Int:=na N xs
theorem vq(a:aE)(h:kOk8 a=true):ar (kBN8 a) (kBX8 a)=true:=A9 _ _ _ _ _ _ _ _ _ h
theorem EN(a:aE):Fit (kBX8 a):=A8 _ _ _ _ _ _ _ _ _
theorem CE(m:Nat)(f:Nat->Bool)(G:Nat)(hG:G<=1048576):eI (df m f G):=by
 intro i;by_cases c:i<G
 .unfold df;rw[iM _ _ _ c];have:=xA m f (8*i);omega
 .unfold gi;rw[List.getD_eq_getElem?_getD,List.getElem?_eq_none (by rw[ku];omega)];decide
theorem BC(m:Nat)(f:Nat->Bool)(G:Nat)(hG:G<=1048576):eI (de m f G):=by
 intro i;by_cases c:i<G
 .unfold de;rw[iM _ _ _ c];have:=jz m f (8*i);omega
 .unfold gi;rw[List.getD_eq_getElem?_getD,List.getElem?_eq_none (by rw[mj];omega)];decide
theorem jW:Fit []:=fun i=>by unfold gt;simp
theorem kW:eI []:=fun i=>by unfold gi;simp
theorem RO.ki{base:Nat}{w:World}{N:Int}{xs:List Nat}{bo:Option Addr}{bc:Nat}{qo:Option Addr}{qc:Nat}{so:Option Addr}{sc:Nat}{tO:Option Addr}{tc:Nat}(h:RO base w (d_ N xs) (dZ N xs) (dH N xs) (dY N xs) bo bc qo qc so sc tO tc)(G:GV w):
  ba w [.int .i64 (fP N xs),.int .i64 (fQ N xs),.int .i64 (fN N xs),.int .i64 (eW N xs),.slice bo (d_ N xs).length bc,.int .i64 (eX N xs),.slice qo (dZ N xs).length qc,.slice so (dH N xs).length sc,.slice tO (dY N xs).length tc] (kB8 N xs):=by
 cases hk:ar N xs with
 | false=>
  have e1:fP N xs=0:=by unfold fP;rw[hk];rfl
  have e2:fQ N xs=0:=by unfold fQ;rw[hk];rfl
  have e3:fN N xs=0:=by unfold fN;rw[hk];rfl
  have e4:eW N xs=0:=by unfold eW;rw[hk];rfl
  have e5:d_ N xs=[]:=by unfold d_;rw[hk];rfl
  have e6:eX N xs=0:=by unfold eX;rw[hk];rfl
  have e7:dZ N xs=[]:=by unfold dZ;rw[hk];rfl
  have e8:dH N xs=[]:=by unfold dH;rw[hk];rfl
  have e9:dY N xs=[]:=by unfold dY;rw[hk];rfl
  unfold kB8;rw[e5,e7,e8,e9]at h;rw[e1,e2,e3,e4,e5,e6,e7,e8,e9];have z:ax 0:=by unfold ax;decide
  exact⟨⟨bo,bc,qo,qc,so,sc,tO,tc,rfl,⟨z,z,z,z,z,kW,kW⟩,h.c,jW,h.cl,h.o,jW,h.ol,h.s,h.sl,h.t,h.tl⟩,Nat.zero_le _,Nat.zero_le _,Nat.zero_le _,Nat.zero_le _,G⟩
 | true=>
  obtain⟨h0,h1,_,_⟩:=bp N xs hk;have e1:fP N xs=N:=by unfold fP;rw[hk];rfl
  have e2:fQ N xs=(nb N.toNat:Int):=by unfold fQ;rw[hk];rfl
  have e3:fN N xs=4:=by unfold fN;rw[hk];rfl
  have e4:eW N xs=(nb N.toNat:Int)*4:=by unfold eW;rw[hk];rfl
  have e5:d_ N xs=rC N.toNat (bitAt xs):=by unfold d_;rw[hk];rfl
  have e6:eX N xs=(bat N.toNat (bitAt xs) (nb N.toNat):Int):=by unfold eX;rw[hk];rfl
  have e7:dZ N xs=rO N.toNat (bitAt xs):=by unfold dZ;rw[hk];rfl
  have e8:dH N xs=rS N.toNat (bitAt xs):=by unfold dH;rw[hk];rfl
  have e9:dY N xs=rT N.toNat (bitAt xs):=by unfold dY;rw[hk];rfl
  unfold kB8;rw[e5,e7,e8,e9]at h;rw[e1,e2,e3,e4,e5,e6,e7,e8,e9];have hn:=gJ N.toNat (by omega);have hb:=jz N.toNat (bitAt xs) (nb N.toNat);have hg:gN N.toNat<=8739:=by unfold gN;omega
  have lC:(rC N.toNat (bitAt xs)).length<=1048576:=by unfold rC mkS;rw[cU,gj];omega
  have lO:(rO N.toNat (bitAt xs)).length<=1048576:=by unfold rO frL;rw[cU,mp];omega
  have lS:(rS N.toNat (bitAt xs)).length<=1048576:=by unfold rS;rw[ku];omega
  have lT:(rT N.toNat (bitAt xs)).length<=1048576:=by unfold rT;rw[mj];omega
  have hg2:gN N.toNat<=1048576:=by omega
  have fS:eI (rS N.toNat (bitAt xs)):=by unfold rS;exact CE _ _ _ hg2
  have fT:eI (rT N.toNat (bitAt xs)):=by unfold rT;exact BC _ _ _ hg2
  have fC:Fit (rC N.toNat (bitAt xs)):=by unfold rC mkS;exact db _ _
  have fO:Fit (rO N.toNat (bitAt xs)):=by unfold rO frL;exact db _ _
  generalize rC N.toNat (bitAt xs)=C at *;generalize rO N.toNat (bitAt xs)=O at *;generalize rS N.toNat (bitAt xs)=S at *;generalize rT N.toNat (bitAt xs)=T at *;generalize bat N.toNat (bitAt xs) (nb N.toNat)=L at *
  generalize nb N.toNat=k at *;have n1:ax N:=⟨by omega,by omega⟩;have n2:ax (k:Int):=⟨by omega,by omega⟩;have n3:ax 4:=by unfold ax;decide
  have n4:ax ((k:Int)*4):=⟨by omega,by omega⟩;have n5:ax (L:Int):=⟨by omega,by omega⟩
  exact⟨⟨bo,bc,qo,qc,so,sc,tO,tc,rfl,⟨n1,n2,n3,n4,n5,fS,fT⟩,h.c,fC,h.cl,h.o,fO,h.ol,h.s,h.sl,h.t,h.tl⟩,lC,lO,lS,lT,G⟩
theorem RO.nf{base:Nat}{w:World}{C O:List Nat}{S T:List Int}{bo:Option Addr}{bc:Nat}{qo:Option Addr}{qc:Nat}{so:Option Addr}{sc:Nat}{tO:Option Addr}{tc:Nat}{c0 c1 c2 c3 c4 c5 c6:Value}{n m:Nat}(h:RO base w C O S T bo bc qo qc so sc tO tc):NF base 7 [c0,c1,c2,c3,c4,c5,c6,.slice so n sc,.slice tO m tc]:=
 eM h.sn h.tn
end Go.Proofs.YtleegaihbgbcjaaGreatDoor
namespace Go.Proofs.YtleegaihbgbcjaaGreatDoor
open Num Bit
def plc(f:Nat->Bool)(n:Nat):List Nat:=(List.range n).filter f
theorem lR(f:Nat->Bool)(n:Nat):plc f (n+1)=plc f n++if f n then [n]else []:=by
 unfold plc;rw[List.range_succ,List.filter_append,List.filter_cons];cases f n<;>simp
theorem BQ(f:Nat->Bool)(n:Nat):(plc f n).length<=n:=by
 have:=List.length_filter_le f (List.range n);rw[List.length_range]at this;exact this
theorem uJ(f:Nat->Bool)(n i:Nat):i∈plc f n↔i<n/\f i=true:=by
 unfold plc;rw[List.mem_filter,List.mem_range]
def aR(l:List Nat)(n:Nat):Prop:=(∀i,i<l.length->gt l i<n)/\∀i,i+1<l.length->gt l i<gt l (i+1)
theorem jr(l m:List Nat)(i:Nat)(h:i<l.length):gt (l++m) i=gt l i:=by
 unfold gt;rw[List.getD_eq_getElem?_getD,List.getD_eq_getElem?_getD,List.getElem?_append_left h]
theorem kP(l:List Nat)(v:Nat):gt (l++[v]) l.length=v:=by
 unfold gt;rw[List.getD_eq_getElem?_getD,List.getElem?_append_right (Nat.le_refl _),Nat.sub_self];rfl
theorem aR.snoc{l:List Nat}{n v:Nat}(h:aR l n)(hv:v<n)(hl:0<l.length->gt l (l.length-1)<v):aR (l++[v]) n:=by
 constructor
 .intro i hi;rw[List.length_append,List.length_singleton]at hi;by_cases c:i<l.length
  .rw[jr l _ i c];exact h.1 i c
  .obtain rfl:i=l.length:=by omega
   rw[kP];exact hv
 .intro i hi;rw[List.length_append,List.length_singleton]at hi;by_cases c:i+1<l.length
  .rw[jr l _ i (by omega),jr l _ (i+1) c];exact h.2 i c
  .have e:i+1=l.length:=by omega
   rw[jr l _ i (by omega),e,kP];have:=hl (by omega);rw[show l.length-1=i by omega]at this;exact this
theorem aR.more{l:List Nat}{n m:Nat}(h:aR l n)(hm:n<=m):aR l m:=⟨fun i hi=>Nat.lt_of_lt_of_le (h.1 i hi) hm,h.2⟩
theorem aR.step{l:List Nat}{n:Nat}(h:aR l n):∀d i,i+d<l.length->gt l i+d<=gt l (i+d):=by
 intro d;induction d with
 | zero=>intro i _;exact Nat.le_refl _
 | succ d ih=>
  intro i hi;have h1:=ih i (by omega);have h2:=h.2 (i+d) (by omega);rw[show i+(d+1)=i+d+1 by omega];omega
theorem aR.lt{l:List Nat}{n:Nat}(h:aR l n){i j:Nat}(hij:i<j)(hj:j<l.length):gt l i<gt l j:=by
 have:=h.step (j-i) i (by omega);rw[show i+(j-i)=j by omega]at this;omega
theorem aR.len{l:List Nat}{n:Nat}(h:aR l n):l.length<=n:=by
 by_cases c:l.length=0
 .omega
 .have:=h.step (l.length-1) 0 (by omega);have:=h.1 (0+(l.length-1)) (by omega);omega
theorem jb(f:Nat->Bool)(n:Nat):aR (plc f n) n:=by
 induction n with
 | zero=>exact⟨fun i hi=>absurd hi (by simp[plc]),fun i hi=>absurd hi (by simp[plc])⟩
 | succ n ih=>
  rw[lR];cases h:f n with
  | false=>simp only[Bool.false_eq_true,if_false,List.append_nil];exact ih.more (by omega)
  | true=>
   simp only[if_true];exact(ih.more (by omega)).snoc (by omega) (fun h0=>ih.1 _ (by omega))
def isIn(l:List Nat)(j:Nat):Bool:=(List.range l.length).any fun i=>gt l i==j
theorem fg(l:List Nat)(j:Nat):isIn l j=true↔∃i,i<l.length/\gt l i=j:=by
 unfold isIn;rw[List.any_eq_true];constructor
 .rintro⟨i,hi,he⟩;exact⟨i,List.mem_range.1 hi,by simpa using he⟩
 .rintro⟨i,hi,he⟩;exact⟨i,List.mem_range.2 hi,by simpa using he⟩
theorem vA(l:List Nat)(v j:Nat):isIn (l++[v]) j=(isIn l j||v==j):=by
 rw[Bool.eq_iff_iff,fg,Bool.or_eq_true,fg,beq_iff_eq];constructor
 .rintro⟨i,hi,he⟩;rw[List.length_append,List.length_singleton]at hi;by_cases c:i<l.length
  .rw[jr l _ i c]at he;exact .inl ⟨i,c,he⟩
  .obtain rfl:i=l.length:=by omega
   rw[kP]at he;exact .inr he
 .rintro(⟨i,hi,he⟩ | he)
  .exact⟨i,by rw[List.length_append];omega,by rw[jr l _ i hi];exact he⟩
  .exact⟨l.length,by simp,by rw[kP];exact he⟩
theorem oh(l:List Nat)(i:Nat)(h:i<l.length):isIn l (gt l i)=true:=(fg l _).2 ⟨i,h,rfl⟩
theorem uK(l:List Nat)(j:Nat):isIn l j=true↔j∈l:=by
 rw[fg];constructor
 .rintro⟨i,hi,rfl⟩;unfold gt;rw[List.getD_eq_getElem?_getD,List.getElem?_eq_getElem hi];exact List.getElem_mem hi
 .intro h;obtain⟨i,hi,he⟩:=List.getElem_of_mem h;exact⟨i,hi,by unfold gt;rw[List.getD_eq_getElem?_getD,List.getElem?_eq_getElem hi];exact he⟩
theorem AJ{l m:List Nat}{n:Nat}(h:aR l n)(k:aR m n)(e:∀j,isIn l j=isIn m j):l=m:=by
 have key:∀{l m:List Nat},aR l n->aR m n->(∀j,isIn l j=isIn m j)->∀i,i<l.length->i<m.length/\gt l i=gt m i:=by
  intro l m h k e i;induction i using Nat.strongRecOn with
  | _ i ih=>
   intro hi;have h1:=oh l i hi;rw[e,fg]at h1;obtain⟨j,hj,hje⟩:=h1
   have hij:i<=j:=by
    refine Nat.le_of_not_lt fun c=>?_;have:=ih j c (by omega);have:=h.lt c hi;omega
   refine⟨by omega,?_⟩;by_cases c:i=j
   .subst c;exact hje.symm
   .have h4:=oh m i (by omega);rw[<-e,fg]at h4;obtain⟨k',hk,hke⟩:=h4;have hk2:=k.lt (show i<j by omega) hj
    have hki:k'<i:=by
     refine Nat.lt_of_not_le fun c2=>?_;by_cases c3:k'=i
     .subst c3;omega
     .have:=h.lt (show i<k' by omega) hk;omega
    have:=ih k' hki hk;have:=k.lt hki (show i<m.length by omega);omega
 have hl:=fun i hi=>key h k e i hi;have hm:=fun i hi=>key k h (fun j=>(e j).symm) i hi
 have hlen:l.length=m.length:=by
  by_cases c:l.length<=m.length
  .by_cases c2:l.length=m.length
   .exact c2
   .have:=(hm l.length (by omega)).1;omega
  .have:=(hl m.length (by omega)).1;omega
 exact Bit.list_ext _ _ hlen (fun i hi=>(hl i hi).2)
theorem BM{l:List Nat}{n:Nat}(h:aR l n):plc (isIn l) n=l:=by
 refine AJ (jb _ n) h fun j=>?_;rw[Bool.eq_iff_iff,uK,uJ,fg];constructor
 .rintro⟨_,h2⟩;exact h2
 .rintro⟨i,hi,rfl⟩;exact⟨h.1 i hi,i,hi,rfl⟩
def wdF(n m:Nat):Nat:=if m=0 then 0 else Go.bitLen (n/m)-1
theorem gS(n m:Nat)(h:n<2^21):wdF n m<=20:=by
 unfold wdF;split
 .omega
 .have h1:n/m<=n:=Nat.div_le_self n m;have:=kH (n/m) 21 (by omega);omega
def hiP(l:List Nat)(w:Nat):List Nat:=(List.range l.length).map fun i=>gt l i/2^w+i
def hiN(l:List Nat)(n w:Nat):Nat:=l.length+n/2^w+1
def loP(l:List Nat)(w:Nat):List Nat:=if w=0 then []else l.map (·%2^w)
theorem kC(l:List Nat)(w:Nat):(hiP l w).length=l.length:=by simp[hiP]
theorem kN(l:List Nat)(w i:Nat)(h:i<l.length):gt (hiP l w) i=gt l i/2^w+i:=by
 unfold hiP;show gt _ i=_;unfold gt;rw[List.getD_eq_getElem?_getD,List.getElem?_map,List.getElem?_range h];rfl
theorem FQ(l:List Nat)(f:Nat->Nat)(i:Nat)(h:i<l.length):gt (l.map f) i=f (gt l i):=by
 unfold gt;rw[List.getD_eq_getElem?_getD,List.getD_eq_getElem?_getD,List.getElem?_map,List.getElem?_eq_getElem h];rfl
theorem jN(l:List Nat)(w:Nat)(h:0<w):(loP l w).length=l.length:=by unfold loP;rw[if_neg (by omega),List.length_map]
theorem oy(l:List Nat)(w i:Nat)(hw:0<w)(h:i<l.length):gt (loP l w) i=gt l i%2^w:=by unfold loP;rw[if_neg (by omega),FQ l _ i h]
theorem vX{l:List Nat}{n:Nat}(w:Nat)(h:aR l n):aR (hiP l w) (hiN l n w):=by
 constructor
 .intro i hi;rw[kC]at hi;rw[kN l w i hi];have:=Nat.div_le_div_right (c:=2^w) (Nat.le_of_lt (h.1 i hi));unfold hiN;omega
 .intro i hi;rw[kC]at hi;rw[kN l w i (by omega),kN l w (i+1) hi];have:=Nat.div_le_div_right (c:=2^w) (Nat.le_of_lt (h.2 i hi));omega
def gu(w:Nat)(lo hi:List Nat)(q:Nat):Nat:=(gt hi q-q)*2^w+if w=0 then 0 else gt lo q%2^w
def eP(n w:Nat)(lo hi:List Nat):Nat->Option (List Nat)
 | 0=>some []
 | q+1=>match eP n w lo hi q with
  | none=>none
  | some out=>if n<=gu w lo hi q\/(0<q/\gu w lo hi q<=gt out (q-1))then none else some (out++[gu w lo hi q])
theorem re(n w:Nat)(lo hi:List Nat):∀q out,eP n w lo hi q=some out->out.length=q/\aR out n:=by
 intro q;induction q with
 | zero=>intro out h;simp only[eP,Option.some.injEq]at h;subst h;exact⟨rfl,fun i hi=>absurd hi (by simp),fun i hi=>absurd hi (by simp)⟩
 | succ q ih=>
  intro out h;rw[eP]at h;cases hq:eP n w lo hi q with
  | none=>rw[hq]at h;cases h
  | some o=>
   rw[hq]at h;obtain⟨h1,h2⟩:=ih o hq;simp only at h;split at h
   .cases h
   .rename_i hn;obtain rfl:=Option.some.inj h;refine⟨by rw[List.length_append,h1];rfl,h2.snoc (by omega) fun h0=>?_⟩;rw[h1]at h0⊢;omega
theorem Gt{l:List Nat}{n:Nat}(w q:Nat)(h:q<l.length):gu w (loP l w) (hiP l w) q=gt l q:=by
 unfold gu;rw[kN l w q h,Nat.add_sub_cancel];by_cases hw:w=0
 .subst hw;simp
 .rw[if_neg hw,oy l w q (by omega) h,Nat.mod_mod];rw[Nat.mul_comm];exact Nat.div_add_mod _ _
theorem sH(l:List Nat)(q:Nat)(h:q<l.length):l.take (q+1)=l.take q++[gt l q]:=by
 rw[List.take_add_one,List.getElem?_eq_getElem h];unfold gt;rw[List.getD_eq_getElem?_getD,List.getElem?_eq_getElem h];rfl
theorem ou(l:List Nat)(q i:Nat)(h:i<q):gt (l.take q) i=gt l i:=by
 unfold gt;rw[List.getD_eq_getElem?_getD,List.getD_eq_getElem?_getD,List.getElem?_take_of_lt h]
theorem GU{l:List Nat}{n:Nat}(w:Nat)(h:aR l n):∀q,q<=l.length->eP n w (loP l w) (hiP l w) q=some (l.take q):=by
 intro q;induction q with
 | zero=>intro _;rfl
 | succ q ih=>
  intro hq;rw[eP,ih (by omega)];simp only;rw[Gt (n:=n) w q (by omega),if_neg,sH l q (by omega)];rintro(c | ⟨c1,c2⟩)
  .have:=h.1 q (by omega);omega
  .rw[ou l q (q-1) (by omega)]at c2;have:=h.lt (show q-1<q by omega) (show q<l.length by omega);omega
structure FA where
 N:Int
 M:Int
 k:Int
 V:Int
 LM:Int
 xs:List Nat
 H:Int
 ys:List Nat
def cK(n:Nat)(l:List Nat):FA:=
 ⟨n,l.length,(loP l (wdF n l.length)).length,((max (wdF n l.length) 1:Nat):Int),((loP l (wdF n l.length)).length:Int)*(max (wdF n l.length) 1:Nat),mkS (loP l (wdF n l.length)) (max (wdF n l.length) 1) (loP l (wdF n l.length)).length,hiN l n (wdF n l.length),rowOf (hiN l n (wdF n l.length)) (isIn (hiP l (wdF n l.length)))⟩
def gL(a:FA):Option (List Nat):=
 let hi:=plc (bitAt a.ys) a.H.toNat
 let lo:=(List.range a.k.toNat).map (numAt a.V.toNat a.xs)
 let w:=wdF a.N.toNat a.M.toNat
 if (0<=a.N/\a.N<=1048576/\0<=a.M/\a.M<=a.N)/\aZ a.k a.V a.LM a.xs=true/\ar a.H a.ys=true/\(hi.length:Int)=a.M/\(w=0\/(lo.length:Int)=a.M)then eP a.N.toNat w lo hi hi.length else none
theorem Gx(l:List Nat)(W:Nat)(hW:1<=W)(hl:∀i,gt l i<2^W)(i:Nat)(hi:i<l.length):numAt W (mkS l W l.length) i=gt l i:=by
 unfold numAt;refine(ii W (gt l i) _ fun k=>?_).symm;by_cases c:k<W
 .unfold mkS
  have e1:(i*W+k)/W=i:=by
   rw[Nat.mul_comm,Nat.mul_add_div (by omega),Nat.div_eq_of_lt c];omega
  have e2:(i*W+k)%W=k:=by rw[Nat.mul_comm,Nat.mul_add_mod,Nat.mod_eq_of_lt c]
  have e3:i*W+k<l.length*W:=by
   have:=mc l.length W i hi;omega
  rw[eF,e1,e2];simp[c,e3]
 .have:gt l i<2^k:=Nat.lt_of_lt_of_le (hl i) (Nat.pow_le_pow_right (by decide) (by omega));rw[Nat.testBit_lt_two_pow this];simp[c]
theorem GM(l:List Nat)(W:Nat)(hW:1<=W)(hW2:W<=64)(hl:l.length*W<=1048576):aZ (l.length:Int) (W:Int) ((l.length*W:Nat):Int) (mkS l W l.length)=true:=by
 unfold aZ;rw[Bool.and_eq_true,decide_eq_true_eq];refine⟨⟨by omega,by omega,by omega,by rw[Int.natCast_mul]⟩,?_⟩;exact dO _ _ hl
theorem ql(l:List Nat)(w i:Nat):gt (loP l w) i<2^(max w 1):=by
 by_cases hw:w=0
 .subst hw;unfold loP gt;simp
 .by_cases c:i<l.length
  .rw[oy l w i (by omega) c,show max w 1=w by omega];exact Nat.mod_lt _ (Nat.two_pow_pos _)
  .unfold gt;rw[List.getD_eq_getElem?_getD,List.getElem?_eq_none (by rw[jN l w (by omega)];omega)];exact Nat.two_pow_pos _
theorem qs(l:List Nat)(w:Nat):(loP l w).length<=l.length:=by
 unfold loP;split
 .simp
 .rw[List.length_map];exact Nat.le_refl _
theorem BR(f g:Nat->Bool)(n:Nat)(h:∀i,i<n->f i=g i):plc f n=plc g n:=by
 unfold plc;exact List.filter_congr fun i hi=>h i (List.mem_range.1 hi)
theorem DS(lo:List Nat)(V:Nat)(hV:1<=V)(hl:∀i,gt lo i<2^V):(List.range lo.length).map (numAt V (mkS lo V lo.length))=lo:=by
 refine Bit.list_ext _ _ (by simp) fun i hi=>?_;rw[List.length_map,List.length_range]at hi
 have e:gt ((List.range lo.length).map (numAt V (mkS lo V lo.length))) i=numAt V (mkS lo V lo.length) i:=by
  unfold gt;rw[List.getD_eq_getElem?_getD,List.getElem?_map,List.getElem?_range hi];rfl
 rw[e];exact Gx lo V hV hl i hi
theorem GW{l:List Nat}{n:Nat}(h:aR l n)(hn:n<=1048576)(h1:hiN l n (wdF n l.length)<=1048576)(h2:(loP l (wdF n l.length)).length*max (wdF n l.length) 1<=1048576):gL (cK n l)=some l:=by
 have hl:=h.len;have hw:=gS n l.length (by omega)
 have e1:plc (bitAt (cK n l).ys) (cK n l).H.toNat=hiP l (wdF n l.length):=by
  show plc (bitAt (rowOf _ _)) (hiN l n (wdF n l.length):Int).toNat=_;rw[Int.toNat_natCast,BR _ (isIn (hiP l (wdF n l.length))) _ (fun i hi=>by rw[eF];simp[hi])];exact BM (vX _ h)
 have e2:(List.range (cK n l).k.toNat).map (numAt (cK n l).V.toNat (cK n l).xs)=loP l (wdF n l.length):=by
  show(List.range ((loP l (wdF n l.length)).length:Int).toNat).map (numAt ((max (wdF n l.length) 1:Nat):Int).toNat _)=_;rw[Int.toNat_natCast,Int.toNat_natCast];exact DS _ _ (by omega) (ql l _)
 have e3:aZ (cK n l).k (cK n l).V (cK n l).LM (cK n l).xs=true:=by
  have:=GM (loP l (wdF n l.length)) (max (wdF n l.length) 1) (by omega) (by omega) h2;rw[Int.natCast_mul]at this;exact this
 have e4:ar (cK n l).H (cK n l).ys=true:=dO _ _ h1;have e5:(cK n l).N.toNat=n:=rfl;have e6:(cK n l).M.toNat=l.length:=rfl;unfold gL;simp only[e1,e2,e3,e4,e5,e6,kC];rw[if_pos]
 .rw[GU _ h l.length (Nat.le_refl _),List.take_of_length_le (Nat.le_refl _)]
 .refine⟨?_,trivial,trivial,rfl,?_⟩
  .show(0:Int)<=(n:Int)/\(n:Int)<=1048576/\(0:Int)<=(l.length:Int)/\(l.length:Int)<=(n:Int);omega
  .by_cases c:wdF n l.length=0
   .exact .inl c
   .right;rw[jN l _ (by omega)];rfl
theorem oX(a b u v t:Nat)(hu:u<2^t)(hv:v<2^t):(2^t*a+u)&&&(2^t*b+v)=2^t*(a&&&b)+(u&&&v):=by
 have huv:(u&&&v)<2^t:=Nat.lt_of_le_of_lt Nat.and_le_left hu;refine Nat.eq_of_testBit_eq fun j=>?_
 rw[Nat.testBit_and,Nat.testBit_two_pow_mul_add a hu,Nat.testBit_two_pow_mul_add b hv,Nat.testBit_two_pow_mul_add (a&&&b) huv];split<;>simp[Nat.testBit_and]
theorem CU(y:Nat)(h:y≠0):∃s d,y=2^s*(2*d+1):=by
 induction y using Nat.strongRecOn with
 | _ y ih=>
  by_cases c:y%2=1
  .exact⟨0,y/2,by omega⟩
  .obtain⟨s,d,e⟩:=ih (y/2) (by omega) (by omega);refine⟨s+1,d,?_⟩;rw[Nat.pow_succ,Nat.mul_right_comm,<-e];omega
theorem JO(d:Nat):(2*d+1)&&&(2*d)=2*d:=by
 have:=oX d d 1 0 1 (by decide) (by decide);rw[Nat.pow_one]at this;simpa using this
theorem JL(s d:Nat):(2^s*(2*d+1))&&&(2^s*(2*d+1)-1)=2^(s+1)*d:=by
 have hp:=Nat.two_pow_pos s
 have e:2^s*(2*d+1)-1=2^s*(2*d)+(2^s-1):=by
  rw[Nat.mul_add];omega
 rw[e];have:=oX (2*d+1) (2*d) 0 (2^s-1) s hp (by omega);rw[Nat.add_zero,JO,Nat.zero_and]at this;rw[this,Nat.pow_succ,Nat.mul_assoc,Nat.add_zero]
theorem JQ(d k:Nat)(h:d<2^k):d&&&(2^k-(d+1))=0:=by
 refine Nat.eq_of_testBit_eq fun j=>?_;rw[Nat.testBit_and,Nat.testBit_two_pow_sub_succ h,Nat.zero_testBit];cases d.testBit j<;>simp
theorem JM(s d:Nat)(h:2^s*(2*d+1)<18446744073709551616):(2^s*(2*d+1))&&&(18446744073709551616-2^s*(2*d+1))=2^s:=by
 have hp:=Nat.two_pow_pos s
 have hs:s<64:=by
  refine Nat.lt_of_not_le fun c=>?_;have h1:2^64<=2^s:=Nat.pow_le_pow_right (by decide) c;have h2:2^s*1<=2^s*(2*d+1):=Nat.mul_le_mul_left _ (by omega);omega
 obtain⟨k,hk⟩:∃k,64=s+(k+1):=⟨63-s,by omega⟩
 have e64:18446744073709551616=2^s*(2*2^k):=by
  rw[<-Nat.pow_succ',<-Nat.pow_add,<-hk]
 have hd:d<2^k:=by
  rw[e64]at h;have:=Nat.lt_of_mul_lt_mul_left h;omega
 rw[e64,<-Nat.mul_sub];have e2:2*2^k-(2*d+1)=2*(2^k-(d+1))+1:=by omega
 rw[e2];have h3:=oX (2*d+1) (2*(2^k-(d+1))+1) 0 0 s hp hp;have h4:=oX d (2^k-(d+1)) 1 1 1 (by decide) (by decide);rw[Nat.pow_one,JQ d k hd]at h4
 simp only[Nat.add_zero,Nat.and_zero,Nat.mul_zero,Nat.zero_add]at h3 h4;rw[h3,h4];simp
def dz(x p:Nat):Nat:=2^p*(x/2^p)
theorem AW(x p:Nat):dz x p<=x:=Nat.mul_div_le x (2^p)
theorem AV(x:Nat):dz x 0=x:=by unfold dz;simp
theorem AU(x p:Nat)(h:dz x p=0)(k:Nat)(hk:p<=k):x.testBit k=false:=by
 unfold dz at h
 have h0:x/2^p=0:=by
  rcases Nat.mul_eq_zero.1 h with c | c
  .have:=Nat.two_pow_pos p;omega
  .exact c
 have hx:x<2^p:=Nat.lt_of_div_eq_zero (Nat.two_pow_pos p) h0;exact Nat.testBit_lt_two_pow (Nat.lt_of_lt_of_le hx (Nat.pow_le_pow_right (by decide) hk))
theorem AR(x p:Nat)(hx:x<18446744073709551616)(h:dz x p≠0):∃t,p<=t/\t<64/\x.testBit t=true/\(∀k,p<=k->k<t->x.testBit k=false)/\(dz x p&&&(18446744073709551616-dz x p))=2^t/\(dz x p&&&(dz x p-1))=dz x (t+1):=by
 have h0:x/2^p≠0:=fun c=>h (by unfold dz;rw[c,Nat.mul_zero]);obtain⟨s,d,e⟩:=CU _ h0
 have er:dz x p=2^(p+s)*(2*d+1):=by
  unfold dz;rw[e,Nat.pow_add,Nat.mul_assoc]
 have hr:=AW x p
 have tb:∀k,p<=k->x.testBit k=(x/2^p).testBit (k-p):=fun k hk=>by
  rw[Nat.testBit_div_two_pow,Nat.sub_add_cancel hk]
 have ht:x.testBit (p+s)=true:=by
  rw[tb _ (by omega),e,Nat.add_sub_cancel_left,Nat.testBit_two_pow_mul];simp
 have h64:p+s<64:=by
  refine Nat.lt_of_not_le fun c=>?_;rw[Nat.testBit_lt_two_pow (Nat.lt_of_lt_of_le (show x<2^64 from hx) (Nat.pow_le_pow_right (by decide) c))]at ht;cases ht
 refine⟨p+s,by omega,h64,ht,fun k h1 h2=>?_,?_,?_⟩
 .rw[tb k h1,e,Nat.testBit_two_pow_mul];have:¬s<=k-p:=by omega
  simp[this]
 .rw[er];exact JM _ _ (by omega)
 .rw[er,JL];unfold dz;congr 1;rw[show p+s+1=p+(s+1)by omega,Nat.pow_add,<-Nat.div_div_eq_div_mul,e,Nat.pow_succ,<-Nat.div_div_eq_div_mul,Nat.mul_div_cancel_left _ (Nat.two_pow_pos s)];omega
theorem pT(f:Nat->Bool)(a d:Nat)(h:∀k,a<=k->k<a+d->f k=false):plc f (a+d)=plc f a:=by
 induction d with
 | zero=>rfl
 | succ d ih=>
  rw[show a+(d+1)=a+d+1 by omega,lR,h (a+d) (by omega) (by omega),ih (fun k h1 h2=>h k h1 (by omega))];simp
theorem BP(f:Nat->Bool)(a d:Nat):∃l,plc f (a+d)=plc f a++l:=by
 induction d with
 | zero=>exact⟨[],by simp⟩
 | succ d ih=>
  obtain⟨l,hl⟩:=ih;rw[show a+(d+1)=a+d+1 by omega,lR,hl];exact⟨_,List.append_assoc _ _ _⟩
theorem BO(f:Nat->Bool)(a n:Nat)(ha:a<n)(h:f a=true):(plc f a).length<(plc f n).length/\gt (plc f n) (plc f a).length=a/\(plc f (a+1)).length=(plc f a).length+1:=by
 have h1:plc f (a+1)=plc f a++[a]:=by rw[lR,h];rfl
 obtain⟨l,hl⟩:=BP f (a+1) (n-(a+1));rw[show a+1+(n-(a+1))=n by omega,h1]at hl;refine⟨by rw[hl];simp,?_,by rw[h1];simp⟩;rw[hl,List.append_assoc]
 have:=jr (plc f a++[a]) l (plc f a).length (by simp);rw[kP,List.append_assoc]at this;exact this
theorem rJ(xs:List Nat)(j k:Nat)(h:k<64):bitAt xs (64*j+k)=(gt xs j).testBit k:=by
 unfold bitAt;rw[show(64*j+k)/64=j by omega,show(64*j+k)%64=k by omega]
end Go.Proofs.YtleegaihbgbcjaaGreatDoor
namespace Go.Proofs.YtleegaihbgbcjaaGreatDoor
open Go
section
variable {P:Program} {ops:Array Oper} {Q:Exit->Act->World->Prop} {md:Region.Mode} {S:World->Prop} {ns:List Nat} {F:Fence} {n:Nat}
def nI(ops:Array Oper):Bool:=ops.toList.all fun o=>match o.op with | .defer _=>false | _=>true
theorem qd{j:Nat}{o:Oper}(h:nI ops=true)(hj:ops[j]?=some o):∀c,o.op≠.defer c:=by
 intro c e;unfold nI at h;rw[List.all_eq_true]at h
 have hm:o∈ops.toList:=by
  rw[<-Array.getElem?_toList]at hj;exact List.mem_of_getElem? hj
 have:=h o hm;rw[e]at this;cases this
theorem rX{i:Nat}{o:Oper}{v:Value}{a:Act}{K:Act->World->Prop}{w:World}(hF:∀f,F.fn f)(hi:ops[i]?=some o)(hd:∀c,o.op≠.defer c)(hy:YieldsIf P ops S o v a)(hS:S w)(h:K (a.put o.dst v) w):wpOpIn F n P ops Q i K a w:=by
 unfold wpOpIn;simp only[hi];rcases hy with⟨hw,hv⟩ | ⟨hw,rfl⟩
 .rw[if_pos hw];refine⟨fun f _=>hF f,?_⟩;rw[Oper.semAt_eq _ _ _ hd,hv w hS];exact h
 .rw[if_neg (by rw[hw];simp)];exact⟨fun f _=>hF f,h⟩
theorem xV{j:Nat}{oi oj:Oper}{v:Value}{K:Act->World->Prop}{a:Act}{w:World}(hF:∀f,F.fn f)(hj:ops[j]?=some oj)(hd:∀c,oj.op≠.defer c)(hap:oi.apart ops oj=true)
  (hsi:∀cs b,oi.op≠.select cs b) (hsj:∀cs b,oj.op≠.select cs b) (hQ:∀c a w,Q (.panic c) (a.put oi.dst v) w->Q (.panic c) a w)
  (hy:YieldsIf P ops S oi v a) (h:wpOpIn F n P ops Q j K (a.put oi.dst v) w):
  wpOpIn F n P ops Q j (fun a' w'=>YieldsIf P ops S oi v a'/\K (a'.put oi.dst v) w') a w:=by
 obtain⟨h1,h2,h3⟩:=Oper.apart_spec hap;have keep:∀u,YieldsIf P ops S oi v (a.put oj.dst u):=fun u=>hy.of_same (execOp_put oi hsi a oj.dst u h3) (wanted_put oi a oj.dst u h3)
 have fit:∀u w',K ((a.put oi.dst v).put oj.dst u) w'->YieldsIf P ops S oi v (a.put oj.dst u)/\K ((a.put oj.dst u).put oi.dst v) w':=fun u w' hk=>⟨keep u,by rw[<-Act.put_comm a v u h2];exact hk⟩;unfold wpOpIn at h⊢
 simp only[hj]at h⊢;rw[wanted_put oj a oi.dst v h1]at h;by_cases hw:Region.wanted oj (yielded ops a.tmps)=true
 .rw[if_pos hw]at h⊢;refine⟨fun f _=>hF f,?_⟩;have h:=h.2;rw[Oper.semAt_eq _ _ _ hd,execOp_put oj hsj a oi.dst v h1]at h;rw[Oper.semAt_eq _ _ _ hd];generalize (execOp a.eval oj).run P w=r at h⊢;match r,h with
  | .ok (.value u) w',h=>exact fit u w' h
  | .ok .skip w',h=>exact fit undef w' h
  | .ok (.defer d) w',h=>
   have kd:YieldsIf P ops S oi v { a with defers:=d::a.defers }:=hy.of_same rfl rfl;refine⟨kd.of_same (execOp_put oi hsi _ oj.dst undef h3) (wanted_put oi _ oj.dst undef h3),?_⟩
   rw[<-Act.put_comm _ v undef h2,<-Act.put_defers];exact h
  | .ok (.enter f args) w',h=>
   refine⟨h.1,h.2.mono fun e w2 he=>?_⟩;match e,he with
   | .returned u,he=>exact fit u w2 he
   | .panicked c,he=>exact hQ _ _ _ he
   | .outgrown,he=>exact he
  | .ok (.row row args) w',h=>exact⟨h.1,RowsIn.mono h.2 fun u w2 he=>fit u w2 he⟩
  | .ok (.round l f tmps assign body) w',h=>
   refine⟨h.1,RoundIn.mono h.2 fun e w2 he=>?_⟩;match e,he with
   | .returned u,he=>exact fit u w2 he
   | .panicked c,he=>exact hQ _ _ _ he
   | .outgrown,he=>exact he
  | .halt (.panic u) w',h=>exact hQ _ _ _ h
 .rw[if_neg hw]at h⊢;exact⟨fun f _=>hF f,fit undef w h.2⟩
def aI(F:Fence)(n:Nat)(P:Program)(md:Region.Mode)(ops:Array Oper)(Q:Exit->Act->World->Prop)(S:World->Prop)(ns:List Nat):Nat->Array Bool->Act->World->Prop
 | 0,l,a,w=>Region.ready md ops l=[]/\Q .normal a w
 | f+1,l,a,w=>(Region.ready md ops l=[]->Q .normal a w)/\∀i∈Region.ready md ops l,wpOpIn F n P ops Q i (fun a' w'=>(i ∉ ns->S w->S w')/\aI F n P md ops Q S ns f (l.setIfInBounds i true) a' w') a w
theorem aI.any:∀f l a w,aI F n P md ops Q S ns f l a w->wpAnyIn F n P md ops Q f l a w
 | 0,_,_,_,h=>h
 | f+1,_,_,_,h=>⟨h.1,fun i hi=>wpOpIn_mono (fun a' w' h'=>aI.any f _ a' w' h'.2) (h.2 i hi)⟩
theorem aI.first{i:Nat}{oi:Oper}{v:Value}(hF:∀f,F.fn f)(hi:ops[i]?=some oi)(hsel:Region.noSelect ops=true)(hdef:nI ops=true)(hQ:∀c a w,Q (.panic c) (a.put oi.dst v) w->Q (.panic c) a w)(hw:ns.all (fun n=>gT md ops n i)=true):
  ∀f l a w,(∀j oj,ops[j]?=some oj->j≠i->l.getD j true=false->(∀e∈oj.after,Region.binds md e=true->e.on≠i)->oi.apart ops oj=true)->
   i∈Region.ready md ops l->YieldsIf P ops S oi v a->S w->aI F n P md ops Q S ns f (l.setIfInBounds i true) (a.put oi.dst v) w->aI F n P md ops Q S ns (f+1) l a w:=by
 intro f;induction f with
 | zero=>
  intro l a w _ hr hy hS H;refine⟨fun h=>absurd hr (by rw[h];simp),fun j hj=>?_⟩;by_cases c:j=i
  .subst c;exact rX hF hi (qd hdef hi) hy hS ⟨fun _ h=>h,H⟩
  .have h1:=ready_mono hj c;rw[H.1]at h1;exact absurd h1 (by simp)
 | succ f ih=>
  intro l a w hfree hr hy hS H;refine⟨fun h=>absurd hr (by rw[h];simp),fun j hj=>?_⟩;by_cases c:j=i
  .subst c;exact rX hF hi (qd hdef hi) hy hS ⟨fun _ h=>h,H⟩
  have hun:=(mem_ready.1 hr).1;have hjn:j ∉ ns:=fun e=>sp (List.all_eq_true.1 hw j e) hun hj;obtain⟨hjun,oj,hoj,hall⟩:=mem_ready.1 hj
  have hnot:∀e∈oj.after,Region.binds md e=true->e.on≠i:=by
   intro e he hb heq;have h1:=hall e he hb;rw[heq]at h1;rcases Nat.lt_or_ge i l.size with h' | h'
   .simp[h']at hun h1;rw[hun]at h1;cases h1
   .simp[Array.getElem?_eq_none h']at h1
  have h2:=xV hF hoj (qd hdef hoj) (hfree j oj hoj c hjun hnot) (fun cs b=>Region.noSelect_spec hsel i oi cs b hi) (fun cs b=>Region.noSelect_spec hsel j oj cs b hoj) hQ hy (H.2 j (ready_mono hj c))
  refine wpOpIn_mono (fun a' w' h3=>⟨h3.2.1,ih (l.setIfInBounds j true) a' w' ?_ (ready_mono hr (Ne.symm c)) h3.1 (h3.2.1 hjn hS) ?_⟩) h2
  .intro k ok hk hki hku hno;refine hfree k ok hk hki ?_ hno;by_cases e:j=k
   .subst e;exact hjun
   .rw[getD_set_ne true e]at hku;exact hku
  .rw[Array.setIfInBounds_comm _ _ c];exact h3.2.2
theorem aI.take(i:Nat){oi:Oper}{v:Value}{f:Nat}{l:Array Bool}{a:Act}{w:World}(hF:∀f,F.fn f)(hi:ops[i]?=some oi)(hs:Region.noSelect ops=true)(hdef:nI ops=true)(hf:Region.free md ops l i=true)(hr:(Region.ready md ops l).contains i=true)(hw:ns.all (fun n=>gT md ops n i)=true)
  (hQ:∀c a w,Q (.panic c) (a.put oi.dst v) w->Q (.panic c) a w) (hS:S w) (hy:∀w0,S w0->(execOp a.eval oi).run P w0=.ok (.value v) w0) (hwn:Region.wanted oi (yielded ops a.tmps)=true)
  (h:aI F n P md ops Q S ns f (l.setIfInBounds i true) (a.put oi.dst v) w):aI F n P md ops Q S ns (f+1) l a w:=
 aI.first hF hi hs hdef hQ hw f l a w (Region.free_spec hi hf) (by simpa using hr) (.inl ⟨hwn,hy⟩) hS h
theorem aI.one(i:Nat){o:Oper}{f:Nat}{l:Array Bool}{a:Act}{w:World}(hF:∀f,F.fn f)(hr:Region.ready md ops l=[i])(ho:ops[i]?=some o)(hd:∀c,o.op≠.defer c)(hwn:Region.wanted o (yielded ops a.tmps)=true)
  (h:∀K:Act->World->Prop,Shut (∀a' w',(i ∉ ns->S w')->aI F n P md ops Q S ns f (l.setIfInBounds i true) a' w'->K a' w')->o.uponIn F n P a K Q ((execOp a.eval o).run P w)):
  aI F n P md ops Q S ns (f+1) l a w:=by
 refine⟨fun h0=>absurd (hr.symm.trans h0) (by simp),fun j hj=>?_⟩;rw[hr]at hj;obtain rfl:=List.mem_singleton.1 hj;refine wpOpIn_step ho (fun K hK=>?_);rw[if_pos hwn];refine⟨fun f _=>hF f,?_⟩
 rw[Oper.semAt_eq _ _ _ hd];exact h K (fun a' w' hS hW=>hK a' w' ⟨fun n _=>hS n,hW⟩)
theorem aI.done{l:Array Bool}{a:Act}{w:World}(hr:Region.ready md ops l=[])(h:Q .normal a w):∀f,aI F n P md ops Q S ns f l a w
 | 0=>⟨hr,h⟩
 | _+1=>⟨fun _=>h,by rw[hr];simp⟩
theorem pM(ns:List Nat)(S:World->Prop){id:Nat}{a:Act}{w:World}(hm:P.follows .mixedOrders=true)(h:aI F n P .any ops Q S ns ops.size (Array.replicate ops.size false) a w.drew):(Code.region id ops true).wpIn F n P Q a w:=
 wpIn_region_any hm (aI.any _ _ _ _ h)
end
open Go Go.RowKit
structure az (K:Nat->Prop) (W W':World):Prop where
 os:W'.os=W.os
 tape:W'.tape=W.tape
 output:W'.output=W.output
 size:W.heap.size<=W'.heap.size
 same:∀b,K b->b<W.heap.size->W'.heap[b]?=W.heap[b]?
theorem az.refl(K:Nat->Prop)(W:World):az K W W:=⟨rfl,rfl,rfl,Nat.le_refl _,fun _ _ _=>rfl⟩
theorem az.trans{K:Nat->Prop}{a b c:World}(h:az K a b)(k:az K b c):az K a c:=
 ⟨k.os.trans h.os,k.tape.trans h.tape,k.output.trans h.output,Nat.le_trans h.size k.size,fun x hx hl=>(k.same x hx (Nat.lt_of_lt_of_le hl h.size)).trans (h.same x hx hl)⟩
theorem az.less{K K':Nat->Prop}{a b:World}(h:az K a b)(hk:∀x,K' x->K x):az K' a b:=⟨h.os,h.tape,h.output,h.size,fun x hx hl=>h.same x (hk x hx) hl⟩
theorem az.of{K:Nat->Prop}{a b:World}(h:Below a.heap.size a b):az K a b:=⟨h.os,h.tape,h.output,h.size,fun x _ hl=>h.block x hl⟩
theorem az.setCell{K:Nat->Prop}{a b:World}(h:az K a b){p:Addr}(hp:¬K p.block)(v:Value):az K a (b.setCell p v):=
 h.trans ⟨rfl,rfl,rfl,by simp[World.setCell],fun x hx _=>Below.heap_setCell _ _ _ _ (fun e=>hp (e ▸ hx))⟩
theorem az.putObj{K:Nat->Prop}{a b:World}(h:az K a b){r:Nat}(hp:¬K r)(o:Obj):az K a (b.putObj r o):=
 h.trans ⟨rfl,rfl,rfl,by simp,fun x hx _=>World.putObj_heap_other (fun e=>hp (e ▸ hx))⟩
theorem du{B:Nat}{W:World}{r:Nat}(h:B<=r)(o:Obj):Below B W (W.putObj r o):=
 ⟨rfl,rfl,rfl,by simp,fun x hx=>World.putObj_heap_other (by omega)⟩
theorem az.below{K:Nat->Prop}{B:Nat}{a b:World}(h:az K a b)(hB:∀x,x<B->K x)(hs:B<=a.heap.size):Below B a b:=
 ⟨h.os,h.tape,h.output,h.size,fun x hx=>h.same x (hB x hx) (by omega)⟩
theorem bG(l:Nat)(f:FuncId):(Fence.wide.inRound l).fn f:=trivial
def jD(P:Program)(g:Nat)(lb:Array Value)(N:Nat)(enc:Nat->Array Value)(K:Nat->Prop)(w:World):Prop:=
 ∀(l:Nat) (J Jx:Nat->World->Prop) (W:World),Below w.heap.size w W->(∀b,W.heap.size<=b->K b)->
  (∀q W1 W2,J q W1->Below W.heap.size W1 W2->J q W2)->(∀q W1 W2,Jx q W1->Below W.heap.size W1 W2->Jx q W2)->
  (∀q W1,q<N->J q W1->W.heap.size<=W1.heap.size->YieldAt Fence.wide 0 P l (enc q) W1 fun e W2=>
   az K W1 W2/\((e=.returned (.bool true)/\J (q+1) W2)\/(e=.returned (.bool false)/\Jx q W2)))->
  J 0 W->
  Calls P g (#[.func (.yield l) #[] #[]]++lb) W fun e W'=>(∃v,e=.returned v)/\(J N W'\/∃q,q<N/\Jx q W')
theorem jD.enc{P:Program}{g:Nat}{lb:Array Value}{N:Nat}{enc enc':Nat->Array Value}{K:Nat->Prop}{w:World}(h:jD P g lb N enc K w)(he:∀q,q<N->enc q=enc' q):jD P g lb N enc' K w:=
 fun l J Jx W h1 h2 h3 h4 h5 h6=>h l J Jx W h1 h2 h3 h4 (fun q W1 hq hj hz=>by rw[he q hq];exact h5 q W1 hq hj hz) h6
def AF(K:Nat->Prop)(I Ix:Nat->World->Prop)(q:Nat)(W:World):Exit->Act->World->Prop
 | .normal,_,W'=>az K W W'/\I (q+1) W'
 | .ret,_,W'=>az K W W'/\Ix q W'
 | _,_,_=>False
theorem iC{P:Program}{g:Operand}{ps:Array Tmp}{assign body:Code}{Q:Exit->Act->World->Prop}{a:Act}{w:World}{gf:Nat}{lb:Array Value}{N:Nat}{enc:Nat->Array Value}{K:Nat->Prop}
  (hg:a.eval g=.func (.func gf) #[] lb) (eg:∀args w,(callFunc gf args).run P w=.ok (.enter gf args) w) (hps:∀q,(enc q).size=ps.size)
  (hseq:jD P gf lb N enc (fun b=>K b/\b≠w.heap.size+1) w) (hK:∀b,w.heap.size<=b->K b)
  (I Ix:Nat->World->Prop) (hI:∀q W1 W2,I q W1->Below w.heap.size W1 W2->I q W2) (hIx:∀q W1 W2,Ix q W1->Below w.heap.size W1 W2->Ix q W2) (h0:I 0 w) (a₁:Nat->Act)
  (hassign:∀(l q:Nat) (W:World) (K:Act->World->Prop),K (a₁ q) W->assign.wpIn (Fence.wide.inRound l) 0 P (Exit.then K fun _ _ _=>False) { tmps:=(ps.zip (enc q)).foldl (fun t (p,v)=>t.setIfInBounds p v) a.tmps,defers:=[] } W)
  (hbody:∀(l q:Nat) (W:World),q<N->I q W->w.heap.size+2<=W.heap.size->body.wpIn (Fence.wide.inRound l) 0 P (AF K I Ix q W) (a₁ q) W)
  (hdone:∀(D:Nat) (W:World),w.heap.size<=D->I N W->W.heap[D]?=some (.deferred (some []))->Q .normal { a with defers:={ target:=.collected D,args:=#[] }::a.defers } W)
  (hstop:∀(D q:Nat) (W:World),w.heap.size<=D->q<N->Ix q W->W.heap[D]?=some (.deferred (some []))->Q .ret { a with defers:={ target:=.collected D,args:=#[] }::a.defers } W):
  (Code.rangeFunc g ps assign body).wp P Q a w:=by
 refine(wpIn_wide (n:=0)).1 (wpIn_rangeFunc fun fn _=>?_);let rc:LoopState->Option Code->Loop:=fun st pe=>{ state:=st,pending:=pe,fn,tmps:=a.tmps,params:=ps,assign,body,defers:=w.heap.size }
 let W1:=(w.alloc (.deferred (some []))).alloc (.loop (rc .ready none))
 have z1:W1.heap.size=w.heap.size+2:=by simp[W1]
 have hL1:W1.heap[w.heap.size+1]?=some (.loop (rc .ready none)):=by
  have:=World.alloc_heap_new (w.alloc (.deferred (some []))) (.loop (rc .ready none));rwa [World.size_alloc]at this
 have hD1:W1.heap[w.heap.size]?=some (.deferred (some [])):=(Below.heap_alloc _ _ _ (by simp)).trans (World.alloc_heap_new w _);have b1:Below w.heap.size w W1:=((Below.refl _ w).alloc (Nat.le_refl _) _).alloc (by simp) _
 refine⟨w.heap.size+1,[{ target:=.collected w.heap.size,args:=#[] }],W1,{ target:=.fn (.func gf) lb,args:=#[.func (.yield (w.heap.size+1)) #[] #[]] },W1,gf,#[.func (.yield (w.heap.size+1)) #[] #[]]++lb,W1,run_enterLoop_outer _ _ _ _ _,?_,fun _ _=>trivial,?_,fun h=>by simp[Fence.wide]at h,?_⟩
 .simp only[resolve,hg];simp[go_sem]
 .simp[invoke,go_sem,eg]
 refine callsIn_wide.2 ((hseq (w.heap.size+1) (fun q W=>I q W/\W.heap[w.heap.size+1]?=some (.loop (rc .ready none))/\W.heap[w.heap.size]?=some (.deferred (some []))) (fun q W=>Ix q W/\W.heap[w.heap.size+1]?=some (.loop (rc .done (some .ret)))/\W.heap[w.heap.size]?=some (.deferred (some []))) W1 b1 ?_ ?_ ?_ ?_ ⟨hI _ _ _ h0 b1,hL1,hD1⟩).mono ?_)
 .exact fun b hb=>⟨hK b (by omega),by omega⟩
 .exact fun q A B h hb=>⟨hI q A B h.1 (hb.mono (by omega)),(hb.block _ (by omega)).trans h.2.1,(hb.block _ (by omega)).trans h.2.2⟩
 .exact fun q A B h hb=>⟨hIx q A B h.1 (hb.mono (by omega)),(hb.block _ (by omega)).trans h.2.1,(hb.block _ (by omega)).trans h.2.2⟩
 .rintro q W hq ⟨hi,hl,hd⟩ hz;have hlt:w.heap.size+1<W.heap.size:=by omega
  refine⟨fn,_,assign,body,run_yield (P:=P) (args:=enc q) hl (hps q),roundIn_of_wpIn trivial (hassign _ q W _ ⟨_,run_beginRound hl rfl,?_⟩)⟩
  let Wb:=W.putObj (w.heap.size+1) (.loop { rc .ready none with state:=.busy })
  have zb:Wb.heap.size=W.heap.size:=by simp[Wb]
  have bb:Below w.heap.size W Wb:=du (by omega) _;have hlb:Wb.heap[w.heap.size+1]?=some (.loop { rc .ready none with state:=.busy }):=World.putObj_heap_same hlt
  have hdb:Wb.heap[w.heap.size]?=some (.deferred (some [])):=(World.putObj_heap_other (by omega)).trans hd;have kb:az (fun b=>K b/\b≠w.heap.size+1) W Wb:=(az.refl _ W).putObj (fun h=>h.2 rfl) _
  refine wpIn_mono (hbody _ q Wb hq (hI q _ _ hi bb) (by omega)) ?_
  have fin:∀(j:Option Code) (W3:World),az K Wb W3->(Instr.endRound (w.heap.size+1) j).run P W3=.ok (.bool j.isNone) (W3.putObj (w.heap.size+1) (.loop (rc (if j.isNone then .ready else .done) j)))/\az (fun b=>K b/\b≠w.heap.size+1) W (W3.putObj (w.heap.size+1) (.loop (rc (if j.isNone then .ready else .done) j)))/\Below w.heap.size W3 (W3.putObj (w.heap.size+1) (.loop (rc (if j.isNone then .ready else .done) j)))/\(W3.putObj (w.heap.size+1) (.loop (rc (if j.isNone then .ready else .done) j))).heap[w.heap.size+1]?=some (.loop (rc (if j.isNone then .ready else .done) j))/\(W3.putObj (w.heap.size+1) (.loop (rc (if j.isNone then .ready else .done) j))).heap[w.heap.size]?=some (.deferred (some [])):=fun j W3 hk=>by
   have h3:=(hk.same _ (hK _ (by omega)) (by omega)).trans hlb;have hd3:=(hk.same _ (hK _ (by omega)) (by omega)).trans hdb
   refine⟨run_endRound (P:=P) j h3,?_,du (by omega) _,World.putObj_heap_same ?_,(World.putObj_heap_other (by omega)).trans hd3⟩
   .exact(kb.trans (hk.less fun _ h=>h.1)).putObj (fun h=>h.2 rfl) _
   .have:=hk.size;omega
  intro e a3 W3 hp;match e,hp with
  | .normal,hp=>
   obtain⟨f1,f2,f3,f4,f5⟩:=fin none W3 hp.1;exact⟨_,_,f1,f2,.inl ⟨rfl,hI _ _ _ hp.2 f3,f4,f5⟩⟩
  | .ret,hp=>
   obtain⟨f1,f2,f3,f4,f5⟩:=fin (some .ret) W3 hp.1;exact⟨_,_,f1,f2,.inr ⟨rfl,hIx _ _ _ hp.2 f3,f4,f5⟩⟩
 .rintro e W2 ⟨⟨v,rfl⟩,⟨hi,hl,hd⟩ | ⟨q,hq,hi,hl,hd⟩⟩
  .exact⟨none,_,run_endLoop (P:=P) hl (by simp[rc]),hdone _ _ (Nat.le_refl _) (hI _ _ _ hi (du (by omega) _)) ((World.putObj_heap_other (by omega)).trans hd)⟩
  .exact⟨some .ret,_,run_endLoop (P:=P) hl (by simp[rc]),wpIn_ret (hstop _ q _ (Nat.le_refl _) hq (hIx _ _ _ hi (du (by omega) _)) ((World.putObj_heap_other (by omega)).trans hd))⟩
theorem DB{P:Program}{fn:Func}{R:Ending->World->Prop}{tmps:Array Value}{D:Nat}{W:World}{v:Value}(hD:W.heap[D]?=some (.deferred (some [])))
  (hr:(results fn tmps).run P (W.putObj D (.deferred none))=.ok v (W.putObj D (.deferred none))) (h:R (.returned v) (W.putObj D (.deferred none))):
  bodyPostM Fence.wide 0 P fn R .normal { tmps:=tmps,defers:=[{ target:=.collected D,args:=#[] }] } W:=
 ⟨by simp,.inl ⟨_,_,rfl,run_takeDeferred hD,v,hr,h⟩⟩
theorem fc{P:Program}{fn:Func}{R:Ending->World->Prop}{tmps:Array Value}{D:Nat}{W:World}{v:Value}(hD:W.heap[D]?=some (.deferred (some [])))
  (hr:(results fn tmps).run P (W.putObj D (.deferred none))=.ok v (W.putObj D (.deferred none))) (h:R (.returned v) (W.putObj D (.deferred none))):
  bodyPostM Fence.wide 0 P fn R .ret { tmps:=tmps,defers:=[{ target:=.collected D,args:=#[] }] } W:=
 ⟨by simp,.inl ⟨_,_,rfl,run_takeDeferred hD,v,hr,h⟩⟩
end Go.Proofs.YtleegaihbgbcjaaGreatDoor
namespace Go.Proofs.YtleegaihbgbcjaaGreatDoor
open Go.RowKit Go.Shelf Num Bit
attribute [local go_sem] Oper.semAt_some
theorem az.wd{K:Nat->Prop}{W W':World}{ao:Option Addr}{xs:List Nat}(h:az K W W')(hx:Wd W ao xs)(hK:∀p,ao=some p->0<xs.length->K p.block):Wd W' ao xs:=by
 intro h0;obtain⟨g,off,rfl,hl,hc⟩:=hx h0;have hk:=h.same g (hK _ rfl h0) hl;exact⟨g,off,rfl,Nat.lt_of_lt_of_le hl h.size,fun i hi=>(World.cell?_of_block (w:=W) hk).trans (hc i hi)⟩
theorem az.cel{K:Nat->Prop}{W W':World}{b:Nat}{cs:List Value}{T:TypeId}(h:az K W W')(hc:aa W b cs T)(hK:K b):aa W' b cs T:=(h.same b hK hc.lt).trans hc
theorem D5(t:Nat)(h:t<64):dg ((2^t:Nat):Int)=(t:Int)+1:=by
 unfold dg;rw[Int.toNat_natCast,u7 (2^t) t (Nat.pow_lt_pow_right (by decide) (by omega)) (by rw[Nat.div_self (Nat.two_pow_pos t)])];omega
theorem qa(Bb N:Nat)(ao:Option Addr)(xs:List Nat)(cap:Nat)(K:Nat->Prop)(w:World)(hx:Wd w ao xs)(hf:Fit xs)(hc:aa w Bb [.int .i64 N,.slice ao xs.length cap] 33)(hK:K Bb)(hKx:∀p,ao=some p->0<xs.length->K p.block)(hk:ar (N:Int) xs=true):
  jD prog 270 #[.pointer (some ⟨Bb,0,none⟩)] (plc (bitAt xs) N).length (fun q=>#[.int .i64 q,.int .i64 (gt (plc (bitAt xs) N) q:Nat)]) K w:=by
 intro l J Jx W hW hKW hJ hJx hY h0;refine(callsIn_wide (n:=0)).1 (callsIn_of_wp func270 rfl trivial ?_)
 simp only[ntmps270,List.size_toArray,List.length_cons,List.length_nil,Nat.reduceAdd,Nat.reduceSub,Array.replicate_succ,Array.replicate_zero,List.push_toArray,List.append_toArray,List.nil_append,List.cons_append]
 replace hc:=hc.kept hW;replace hx:=hx.keep hW;have q1:=hc.cell 1 rfl;obtain⟨_,hN,hlen,hhi⟩:=bp (N:Int) xs hk
 have HL:Hid (plc (bitAt xs) (64*xs.length)=plc (bitAt xs) N):=by
  show plc _ _=_;have hle:N<=64*xs.length:=by omega
  rw[show 64*xs.length=N+(64*xs.length-N)by omega];exact pT _ _ _ fun k h1 h2=>mH N xs hk k (by omega)
 have lx:xs.length<=16384:=by omega
 clear hlen hc;gi_wp2
 gi_loopw [3,4,5,6,10] (fun iv jv rv lv kv wr=>∃j c:Nat,j<=xs.length/\kv=.int .i64 j/\iv=.int .i64 c/\c<=1048576/\Hid (c=(plc (bitAt xs) (64*j)).length)/\Hid (J c wr)/\Hid (Wd wr ao xs)/\W.heap.size<=wr.heap.size) (fun _ _ _ _ k _=>xs.length-(intOf k).toNat)
 case atStart=>exact⟨0,0,Nat.zero_le _,rfl,rfl,by omega,by show 0=_;simp[plc],h0,hx,Nat.le_refl _⟩
 case round=>
  obtain⟨j,c,hj,rfl,rfl,hc0,hc,HJ,HX,hz⟩:=hrel;by_cases hlt:j<xs.length
  .have hlt2:(j:Int)<(xs.length:Int):=by omega
   obtain⟨g,off,rfl,hgl,hcell⟩:=HX.out (by omega);have cj:=hcell j hlt;have xl:=hf j;obtain⟨x,hxx⟩:∃x,Hid (x=gt xs j):=⟨_,rfl⟩;rw[<-hxx.out]at cj xl;gi_wp2
   gi_loopw [3,5,6] (fun iv rv lv wq=>∃p c r:Nat,p<=64/\iv=.int .i64 c/\rv=.int .u64 r/\r<18446744073709551616/\Hid (r=dz x p)/\c<=1048576/\Hid (c=(plc (bitAt xs) (64*j+p)).length)/\Hid (J c wq)/\Hid (Wd wq (some ⟨g,off,none⟩) xs)/\W.heap.size<=wq.heap.size) (fun _ rv _ _=>(intOf rv).toNat)
   case atStart=>exact⟨0,c,x,by omega,rfl,by rw[hxx.out],xl,by show x=_;rw[AV],hc0,hc,HJ,HX,hz⟩
   case round=>
    clear hcell cj;obtain⟨p,c,r,hp,rfl,rfl,hr,Hr,hc0,hc,HJ,HX,hz⟩:=hrel;by_cases hr0:r=0
    .subst hr0
     have HS:Hid (c=(plc (bitAt xs) (64*(j+1))).length):=by
      show c=_
      have e:=pT (bitAt xs) (64*j+p) (64-p) fun k h1 h2=>by
       rw[show k=64*j+(k-64*j)by omega,rJ xs j _ (by omega),<-hxx.out];exact AU x p Hr.out.symm _ (by omega)
      rw[hc.out,show 64*(j+1)=64*j+p+(64-p)by omega,e]
     gi_wp2;exact⟨⟨j+1,c,by omega,by go_num,rfl,hc0,HS,HJ,HX,hz⟩,by simp only[intOf];omega⟩
    .have r0:((r:Int) != 0)=true:=by simp;omega
     obtain⟨t,h1,h2,h3,h4,h5,h6⟩:=AR x p xl (fun e=>hr0 (Hr.out.trans e));rw[<-Hr.out]at h5 h6
     have hneg:IntKind.u64.wrap (-(r:Int))=((18446744073709551616-r:Nat):Int):=by rw[IntKind.wrap_u64];omega
     have L:Hid (∀w0,Qx 271 #[.int .u64 (bits BinOp.and IntKind.u64 (r:Int) (IntKind.u64.wrap (-(r:Int))))] w0 (.int .i64 ((t:Int)+1))):=fun w0=>by
      rw[hneg,iR _ _ (by omega) (by omega) (by omega) (by omega),Int.toNat_natCast,Int.toNat_natCast,h5];have:=qu ((2^t:Nat):Int) (by omega) (by have:=iW t h2;omega) w0
      rw[D5 t h2]at this;exact this
     have hpl:plc (bitAt xs) (64*j+t)=plc (bitAt xs) (64*j+p):=by
      rw[show 64*j+t=64*j+p+(t-p)by omega];refine pT _ _ _ fun k e1 e2=>?_;rw[show k=64*j+(k-64*j)by omega,rJ xs j _ (by omega),<-hxx.out];exact h4 _ (by omega) (by omega)
     have hbt:bitAt xs (64*j+t)=true:=by rw[rJ xs j t h2,<-hxx.out];exact h3
     have htN:64*j+t<N:=by
      refine Nat.lt_of_not_le fun e=>?_;rw[mH N xs hk _ (by omega)]at hbt;cases hbt
     obtain⟨n1,n2,n3⟩:=BO (bitAt xs) (64*j+t) N htN hbt;rw[hpl,<-hc.out]at n1 n2 n3;have Y:=hY c wr n1 HJ.out hz;have n1':=n1
     rw[n2,show((64*j+t:Nat):Int)=(j:Int)*64+(t:Int)by omega]at Y;obtain⟨r',hr'⟩:∃r',Hid (r'=dz x (t+1)):=⟨_,rfl⟩
     have hand:bits BinOp.and IntKind.u64 (r:Int) ((r:Int)-1)=(r':Int):=by
      rw[show(r:Int)-1=((r-1:Nat):Int)by omega,iR _ _ (by omega) (by omega) (by omega) (by omega),Int.toNat_natCast,Int.toNat_natCast,h6,hr'.out]
     have hrl:r'<r:=by
      rw[hr'.out,<-h6];have:r&&&(r-1)<=r-1:=Nat.and_le_right;omega
     have HC:Hid (c+1=(plc (bitAt xs) (64*j+(t+1))).length):=n3.symm
     have c1:c+1<=1048576:=by
      have:=BQ (bitAt xs) N;omega
     obtain⟨fn,tmps,assign,body,hy,hR⟩:=Y;clear h5 h6 hneg n1 n2 n3 hbt hpl h4 h3;gi_wp2_with fail;refine⟨trivial,rfl,?_⟩;refine(callsIn_wide.2 (L.out _)).mono ?_;rintro e w1 ⟨rfl,hw1⟩;rw[hw1];clear hw1 w1 L
     gi_wp2;refine⟨rfl,hR.mono ?_⟩;rintro e W3 ⟨hkp,⟨rfl,hJ3⟩ | ⟨rfl,hJx3⟩⟩
     .have HJ3:Hid (J (c+1) W3):=hJ3;have HX3:Hid (Wd W3 (some ⟨g,off,none⟩) xs):=hkp.wd HX.out hKx;have hz3:=Nat.le_trans hz hkp.size;clear hJ3 hkp HJ HX hY hJ hJx;gi_wp2
      exact⟨⟨t+1,c+1,r',by omega,by go_num,rfl,by omega,hr',c1,HC,HJ3,HX3,hz3⟩,by simp only[intOf];omega⟩
     .have HF:Hid (∃q,q<(plc (bitAt xs) N).length/\Jx q W3):=⟨c,n1',hJx3⟩;clear hJx3 hkp HJ HX hY hJ hJx;gi_wp2;refine bodyPost_ret (results_none rfl _ _ _) rfl ?_;exact⟨⟨_,rfl⟩,.inr HF.out⟩
  .obtain rfl:j=xs.length:=by omega
   have HE:Hid (J (plc (bitAt xs) N).length wr):=by
    show J _ _;rw[<-HL.out,<-hc.out];exact HJ.out
   clear HJ HX hY hJ hJx;gi_wp2;refine bodyPost_end (results_none rfl _ _ _) rfl ?_;exact⟨⟨_,rfl⟩,.inl HE.out⟩
theorem p_(N:Nat)(ao:Option Addr)(xs:List Nat)(cap:Nat)(w:World):
  Calls prog 227 #[.agg #[.int .i64 N,.slice ao xs.length cap]] w fun e w'=>e=.returned (.func (.func 270) #[] #[.pointer (some ⟨w.heap.size,0,none⟩)])/\w'=w.alloc (.cells #[.int .i64 N,.slice ao xs.length cap] 33):=by
 go_enter func227,ntmps227;go_wp2;go_ret;exact⟨rfl,rfl⟩
end Go.Proofs.YtleegaihbgbcjaaGreatDoor
namespace Go.Proofs.YtleegaihbgbcjaaGreatDoor
open Go.RowKit Num Bit
def lv(l:List Nat):List Value:=l.map fun n:Nat=>Value.int .i64 (n:Int)
theorem D6(x:Nat)(h0:0<x)(h:x<18446744073709551616):1<=Go.bitLen x:=by
 obtain⟨p,hp,h1,_,_,_⟩:=uT (x:Int) (by omega) (by omega) (by omega);unfold dg at hp;rw[Int.toNat_natCast]at hp;omega
theorem om(n m:Nat)(hn:n<=1048576)(hm:m<=n)(w:World):
  Qx 230 #[.int .i64 n,.int .i64 m] w (.int .i64 (wdF n m)):=by
 by_cases h0:m=0
 .subst h0;rw[show wdF n 0=0 from rfl];go_enter func230,ntmps230;go_wp2;go_ret;exact⟨rfl,rfl⟩
 .have m0:((m:Int)==0)=false:=by simp;omega
  have m1:¬(m:Int)=0:=by omega
  obtain⟨d,hd⟩:∃d,d=n/m:=⟨_,rfl⟩;have d1:1<=d:=by rw[hd];exact Nat.div_pos hm (by omega)
  have d2:d<=1048576:=by rw[hd];exact Nat.le_trans (Nat.div_le_self n m) hn
  have e1:(n:Int)/(m:Int)=(d:Int):=by rw[hd];exact(Int.natCast_ediv n m).symm
  have e2:(n:Int).tdiv (m:Int)=(d:Int):=by rw[Int.tdiv_eq_ediv_of_nonneg (by omega)];exact e1
  obtain⟨z,hz⟩:∃z,Go.bitLen d=z+1:=⟨Go.bitLen d-1,by have:=D6 d (by omega) (by omega);omega⟩;have hw:wdF n m=z:=by unfold wdF;rw[if_neg h0,<-hd,hz];rfl
  have lz_:=kH d 21 (by omega);rw[hw]
  have L:Hid (∀w0,Qx 271 #[.int .u64 d] w0 (.int .i64 ((z:Int)+1))):=fun w0=>by
   have:=qu (d:Int) (by omega) (by omega) w0;unfold dg at this;rw[Int.toNat_natCast,hz]at this;exact this
  rw[hz]at lz_;clear hz hw hd;go_enter func230,ntmps230;go_wp2_with fail;refine mr (L.out _) fun w1 h1=>?_;rw[h1];clear h1 w1;go_wp2;go_ret;exact⟨rfl,rfl⟩
theorem aG{p:Prop}(h:p):Hid p:=h
def loN(n m:Nat):Nat:=if wdF n m=0 then 0 else m
theorem qJ(n m:Nat)(hn:n<=1048576)(hm:m<=n)(w:World):
  Qx 226 #[.int .i64 n,.int .i64 m] w (.tuple #[.int .i64 (loN n m),.int .i64 (max (wdF n m) 1:Nat)]):=by
 have C:Hid (∀w0,Qx 230 #[.int .i64 n,.int .i64 m] w0 (.int .i64 (wdF n m))):=fun w0=>om n m hn hm w0;unfold loN;have h20:=gS n m (by omega)
 generalize wdF n m=v at *;by_cases h0:v=0
 .subst h0;go_enter func226,ntmps226;go_wp2_with fail;refine mr (C.out _) fun w1 h1=>?_;rw[h1];clear h1 w1;go_wp2;go_ret2;exact⟨rfl,rfl⟩
 .have v0:(0:Int)<(v:Int):=by omega
  rw[if_neg h0,show max v 1=v by omega];go_enter func226,ntmps226;go_wp2_with fail;refine mr (C.out _) fun w1 h1=>?_;rw[h1];clear h1 w1;go_wp2;go_ret2;exact⟨rfl,rfl⟩
theorem wl(n m:Nat)(hn:n<=1048576)(hm:m<=n)(w:World):
  Qx 229 #[.int .i64 n,.int .i64 m] w (.int .i64 ((m+n/2^wdF n m+1:Nat):Int)):=by
 have C:Hid (∀w0,Qx 230 #[.int .i64 n,.int .i64 m] w0 (.int .i64 (wdF n m))):=fun w0=>om n m hn hm w0;have h20:=gS n m (by omega);generalize wdF n m=v at *
 obtain⟨E,hE⟩:∃E,Hid (E=n/2^v):=⟨_,rfl⟩;have lE:E<=1048576:=by rw[hE.out];exact Nat.le_trans (Nat.div_le_self _ _) hn
 have sE:(n:Int)/2^v=(E:Int):=by rw[hE.out,Int.natCast_ediv,Int.natCast_pow];rfl
 rw[<-hE.out,show((m+E+1:Nat):Int)=(m:Int)+(E:Int)+1 by omega];have v64:(v:Int)<64:=by omega
 go_enter func229,ntmps229;go_wp2_with fail;refine mr (C.out _) fun w1 h1=>?_;rw[h1];clear h1 w1;go_wp2;go_ret;exact⟨rfl,rfl⟩
theorem wj(bit:Bool)(i o:Nat)(hi:i<=1048576)(ho:o<=i)(w:World):
  Qx 180 #[.bool bit,.int .i64 i,.int .i64 o] w (.int .i64 ((if bit then o else i-o:Nat):Int)):=by
 cases bit with
 | true=>
  go_enter func180,ntmps180;go_wp2;go_ret;exact⟨rfl,rfl⟩
 | false=>
  have e:Hid (((i-o:Nat):Int)=(i:Int)-(o:Int)):=by show((i-o:Nat):Int)=_;omega
  simp only[Bool.false_eq_true,if_false];rw[e.out];go_enter func180,ntmps180;go_wp2;go_ret;exact⟨rfl,rfl⟩
theorem AC(n:Nat)(f:Nat->Bool)(p:Nat)(hp:p<n):(rowOf n f).set (p/64) (gt (rowOf n f) (p/64)|||2^(p%64))=rowOf n (fun j=>f j||p==j):=by
 have hl:p/64<(rowOf n f).length:=by rw[cU];omega
 have hfit:=db n f
 have hg:∀i,gt ((rowOf n f).set (p/64) (gt (rowOf n f) (p/64)|||2^(p%64))) i=if i=p/64 then gt (rowOf n f) i|||2^(p%64)else gt (rowOf n f) i:=fun i=>by
  unfold gt;rw[List.getD_eq_getElem?_getD,List.getElem?_set];by_cases c:p/64=i
  .subst c;rw[if_pos rfl,if_pos hl,if_pos rfl];rfl
  .rw[if_neg c,if_neg (fun e=>c e.symm),List.getD_eq_getElem?_getD]
 refine jX n _ _ ?_ (by rw[List.length_set,cU]) ?_
 .intro i;rw[hg];split
  .exact Nat.or_lt_two_pow (n:=64) (hfit i) (Nat.pow_lt_pow_right (by decide) (by omega))
  .exact hfit i
 .intro i _;have hb:=eF n f i;unfold bitAt at hb⊢;rw[hg];by_cases c:i/64=p/64
  .rw[if_pos c,Nat.testBit_or,hb,Nat.testBit_two_pow];by_cases d:p=i
   .subst d;simp[hp]
   .have:¬p%64=i%64:=by omega
    have d2:(p==i)=false:=by simp[d]
    rw[d2];simp[this]
  .have d:¬p=i:=fun e=>c (by rw[e]);have d2:(p==i)=false:=by simp[d]
   rw[if_neg c,hb,d2];simp
theorem Own.drew'{w:World}{g:Nat}{ys:List Nat}(h:Own w g ys):Own w.drew g ys:=h
theorem aL.drew'{g:Nat}{a w:World}(h:aL g a w):aL g a w.drew:=⟨h.os,h.tape,h.output,h.size,h.block⟩
theorem wg(n:Nat)(f:Nat->Bool)(g cap p:Nat)(w:World)(hO:Own w g (rowOf n f))(hp:p<n)(hn:n<=1048576):
  Calls prog 203 #[.slice (some ⟨g,0,none⟩) (rowOf n f).length cap,.int .i64 p] w fun e w'=>(∃v,e=.returned v)/\Own w' g (rowOf n (fun j=>f j||p==j))/\aL g w w':=by
 have hl:p/64<(rowOf n f).length:=by rw[cU];omega
 have hl2:(p:Int)/64<((rowOf n f).length:Int):=by omega
 have hll:(rowOf n f).length<=16384:=by rw[cU];omega
 have RS:=aG (AC n f p hp);have SO:Hid (IntKind.u64.wrap ((2:Int)^(p%64))=((2^(p%64):Nat):Int)):=shl_one _ (by omega);have SP:Hid (2^(p%64)<18446744073709551616):=iW _ (by omega)
 have fx:=db n f;have xl:=fx (p/64);generalize rowOf n f=xs at *;have c1:=hO.cell (p/64) hl;have c2:=hO.frozen (p/64)
 have OR:Hid (bits BinOp.or IntKind.u64 (gt xs (p/64):Int) (IntKind.u64.wrap ((2:Int)^(p%64)))=((gt xs (p/64)|||2^(p%64):Nat):Int)):=by show _=_;rw[SO.out,u64_or_nat _ _ xl SP.out]
 have HO:=aG hO;generalize gt xs (p/64)=x at *;go_enter func203,ntmps203;go_region;refine bodyPost_end (results_none rfl _ _ _) rfl ?_;rw[OR.out,<-RS.out]
 exact⟨⟨_,rfl⟩,(HO.out.set _ _).drew',((aL.refl g w).set _ _).drew'⟩
open Go.RowKit Go.Shelf Num Bit
attribute [local go_sem] Oper.semAt_some
def plq(n mm:Nat)(xs:List Nat)(hh:Nat)(ys:List Nat)(q:Nat):Nat:=(gt (plc (bitAt ys) hh) q-q)*2^wdF n mm+numAt (wdF n mm) xs q
structure fE (n mm kn vn:Nat) (LM:Int) (xs:List Nat) (hh:Nat) (ys:List Nat):Prop where
 hn:n<=1048576
 hm:mm<=n
 ik:aZ (kn:Int) (vn:Int) LM xs=true
 ck:ar (hh:Int) ys=true
 on:(plc (bitAt ys) hh).length=mm
 hv:vn=max (wdF n mm) 1
 hk:kn=loN n mm
 hh:hh=mm+n/2^wdF n mm+1
theorem oD{n mm kn vn:Nat}{LM:Int}{xs:List Nat}{hh:Nat}{ys:List Nat}(h:fE n mm kn vn LM xs hh ys)(q:Nat)(hq:q<mm):gu (wdF n mm) ((List.range kn).map (numAt vn xs)) (plc (bitAt ys) hh) q=plq n mm xs hh ys q:=by
 unfold gu plq;congr 1;by_cases c:wdF n mm=0
 .rw[if_pos c,c];rfl
 .have e1:vn=wdF n mm:=by rw[h.hv];omega
  have e2:kn=mm:=by rw[h.hk];unfold loN;rw[if_neg c]
  rw[if_neg c,e1,e2]
  have e3:gt ((List.range mm).map (numAt (wdF n mm) xs)) q=numAt (wdF n mm) xs q:=by
   unfold gt;rw[List.getD_eq_getElem?_getD,List.getElem?_map,List.getElem?_range hq];rfl
  rw[e3];exact Nat.mod_eq_of_lt (gI _ _)
theorem zF{n mm kn vn:Nat}{LM:Int}{xs:List Nat}{hh:Nat}{ys:List Nat}(h:fE n mm kn vn LM xs hh ys)(q:Nat)(hq:q<mm):bk LM xs ((q:Int)*(wdF n mm:Int)) (wdF n mm:Int)=0/\slcX LM xs ((q:Int)*(wdF n mm:Int)) (wdF n mm:Int)=numAt (wdF n mm) xs q:=by
 have h20:=gS n mm (by have:=h.hn;omega)
 have hc:ar LM xs=true:=by
  have:=h.ik;unfold aZ at this;rw[Bool.and_eq_true]at this;exact this.2
 have hLM:LM=(kn:Int)*(vn:Int):=by
  have:=h.ik;unfold aZ at this;rw[Bool.and_eq_true,decide_eq_true_eq]at this;exact this.1.2.2.2.symm
 have hE:bk LM xs ((q:Int)*(wdF n mm:Int)) (wdF n mm:Int)=0:=by
  unfold bk;have hq0:(0:Int)<=(q:Int)*(wdF n mm:Int):=Int.mul_nonneg (by omega) (by omega);rw[if_neg (by rw[hc];simp;omega),if_neg]
  have:(q:Int)*(wdF n mm:Int)+(wdF n mm:Int)<=LM:=by
   by_cases c:wdF n mm=0
   .rw[c,hLM];have:(0:Int)<=(kn:Int)*(vn:Int):=Int.mul_nonneg (by omega) (by omega);simpa using this
   .have e1:vn=wdF n mm:=by rw[h.hv];omega
    have e2:kn=mm:=by rw[h.hk];unfold loN;rw[if_neg c]
    rw[hLM,e1,e2];have:=mc mm (wdF n mm) q hq;rw[<-Int.natCast_mul,<-Int.natCast_mul];omega
  omega
 refine⟨hE,?_⟩;unfold slcX;rw[if_pos hE];unfold numAt;rw[Int.toNat_natCast,<-Int.natCast_mul,Int.toNat_natCast]
theorem uA(x:Nat)(h:x<=20971520): -9223372036854775808<=(x:Int)/\(x:Int)<=9223372036854775807:=⟨by omega,by omega⟩
theorem CW(x:Nat)(h:x<=20971520):wrap64 (x:Int)=(x:Int):=by unfold wrap64;omega
theorem zD(ao:Option Addr)(xs:List Nat)(cap:Nat)(fx:Fit xs)(q v:Nat)(LM:Int)(hq:q<=1048576)(hv:v<=20)(sE:bk LM xs ((q:Int)*(v:Int)) (v:Int)=0)(sX:slcX LM xs ((q:Int)*(v:Int)) (v:Int)=numAt v xs q)(w0:World)(h:Wd w0 ao xs):
  Qq 220 #[.agg #[.int .i64 LM,.slice ao xs.length cap],.int .i64 (wrap64 ((q:Int)*(v:Int))),.int .i64 v] w0 (.tuple #[.int .u64 (numAt v xs q:Nat),.int .i64 0]):=by
 have qn:q*v<=20971520:=Nat.le_trans (Nat.mul_le_mul hq hv) (by decide);rw[<-Int.natCast_mul]at sE sX⊢;obtain⟨n1,n2⟩:=uA _ qn;obtain⟨n3,n4⟩:=uA v (by omega);rw[CW _ qn]
 have:=m6 LM ao xs cap ((q*v:Nat):Int) v w0 h fx n1 n2 n3 n4;rw[sE,sX]at this;exact this
theorem az.more{K:Nat->Prop}{D:Nat}{a b c:World}(h:az K a b)(hb:Below D b c)(hD:a.heap.size<=D):az K a c:=
 ⟨hb.os.trans h.os,hb.tape.trans h.tape,hb.output.trans h.output,Nat.le_trans h.size hb.size,fun x hx hl=>(hb.block x (by omega)).trans (h.same x hx hl)⟩
theorem kh(n mm kn vn hh:Nat)(LM:Int)(ao:Option Addr)(xs:List Nat)(cap:Nat)(qo:Option Addr)(ys:List Nat)(dap:Nat)(K:Nat->Prop)(w:World)(Bx Bw:Nat)(F:fE n mm kn vn LM xs hh ys)
  (hx:Wd w ao xs) (fx:Fit xs) (hy:Wd w qo ys) (fy:Fit ys) (cx:aa w Bx [.int .i64 (n:Nat),.int .i64 (mm:Nat),.int .i64 (kn:Nat),.int .i64 (vn:Nat),.int .i64 LM,.slice ao xs.length cap,.int .i64 (hh:Nat),.slice qo ys.length dap] 42) (cw:aa w Bw [.int .i64 (wdF n mm:Nat)] 3) (kx:K Bx) (kw:K Bw) (ka:∀p,ao=some p->0<xs.length->K p.block) (kq:∀p,qo=some p->0<ys.length->K p.block):
  jD prog 257 #[.pointer (some ⟨Bx,0,none⟩),.pointer (some ⟨Bw,0,none⟩)] mm (fun q=>#[.int .i64 q,.int .i64 (plq n mm xs hh ys q:Nat)]) K w:=by
 intro l J Jx W hW hKW hJ hJx hY h0;refine(callsIn_wide (n:=0)).1 (callsIn_of_wp_marks func257 rfl trivial ?_)
 simp only[ntmps257,List.size_toArray,List.length_cons,List.length_nil,Nat.reduceAdd,Nat.reduceSub,Array.replicate_succ,Array.replicate_zero,List.push_toArray,List.append_toArray,List.nil_append,List.cons_append]
 refine wpIn_wide.2 ?_;replace cx:=cx.kept hW;replace cw:=cw.kept hW;replace hx:=hx.keep hW;replace hy:=hy.keep hW
 have OC:Hid (∀w0,Calls prog 227 #[.agg #[.int .i64 hh,.slice qo ys.length dap]] w0 fun e w'=>e=.returned (.func (.func 270) #[] #[.pointer (some ⟨w0.heap.size,0,none⟩)])/\w'=w0.alloc (.cells #[.int .i64 hh,.slice qo ys.length dap] 33)):=fun w0=>p_ hh qo ys dap w0
 obtain⟨W1,hW1⟩:∃W1,W1=W.alloc (.cells #[.func (.yield l) #[] #[]] 304):=⟨_,rfl⟩;have b1:Below W.heap.size W W1:=by rw[hW1];exact below_alloc W _
 have z1:W1.heap.size=W.heap.size+1:=by rw[hW1];simp
 have cT:aa W1 W.heap.size [.func (.yield l) #[] #[]] 304:=by rw[hW1];exact aa.new W _ _
 have r6:=(cx.kept (below_alloc W (.cells #[.func (.yield l) #[] #[]] 304))).cell 6 rfl;have r7:=(cx.kept (below_alloc W (.cells #[.func (.yield l) #[] #[]] 304))).cell 7 rfl;go_wp2_with fail;rw[<-hW1];clear hW1
 refine(OC.out _).mono ?_;rintro e w' ⟨rfl,hw'⟩;have b2:Below W1.heap.size W1 w':=by rw[hw'];exact below_alloc W1 _
 have cB:aa w' W1.heap.size [.int .i64 hh,.slice qo ys.length dap] 33:=by rw[hw'];exact aa.new W1 _ _
 have z2:w'.heap.size=W.heap.size+2:=by rw[hw'];simp[z1]
 rw[z1];rw[z1]at cB;clear hw' r6 r7 OC;go_wp2;have b3:Below W.heap.size W w':=bg b1 b2;have cT2:=cT.kept b2;have hi_on:=F.on
 have G:=qa (W.heap.size+1) hh qo ys dap (fun b=>K b/\b≠w'.heap.size+1) w' (hy.keep b3) fy cB ⟨hKW _ (by omega),by omega⟩ (fun p hp h0=>⟨kq p hp h0,by
  obtain⟨g,off,e,hg,_⟩:=hy h0;rw[e]at hp;cases hp;show g≠_
  omega⟩) F.ck
 rw[hi_on]at G
 refine iC (gf:=270) (lb:=#[.pointer (some ⟨W.heap.size+1,0,none⟩)]) (K:=K) rfl (enters_of func270 (by kernel_rfl) rfl) (fun _=>rfl) G (fun b hb=>hKW b (by omega))
  (fun q Wc=>J q Wc/\az K w' Wc) (fun q Wc=>Jx q Wc) (fun q A B h hb=>⟨hJ q A B h.1 (hb.mono (by omega)),h.2.more hb (Nat.le_refl _)⟩) (fun q A B h hb=>hJx q A B h (hb.mono (by omega))) ⟨hJ 0 W w' h0 b3,az.refl _ _⟩
  (fun q=>{ tmps:=#[.func (.yield l) #[] #[],.pointer (some ⟨Bx,0,none⟩),.pointer (some ⟨Bw,0,none⟩),.pointer (some ⟨W.heap.size,0,none⟩),.int .i64 (q:Nat),.int .i64 (gt (plc (bitAt ys) hh) q:Nat),undef,undef,.pointer (some ⟨Bx,6,none⟩),.agg #[.int .i64 (hh:Nat),.slice qo ys.length dap],.func (.func 270) #[] #[.pointer (some ⟨W.heap.size+1,0,none⟩)],.int .i64 (q:Nat),.int .i64 (gt (plc (bitAt ys) hh) q:Nat),undef,undef,undef,undef,undef,undef,undef,undef,undef,undef,undef,undef,undef,undef,undef,undef,undef,undef,undef,undef,undef,undef,undef],defers:=[] }) ?assign ?body ?done ?stop
 case assign=>
  intro l1 q Wc K1 hK1;gi_wp2;exact hK1
 case body=>
  rintro l1 q Wc hq ⟨HJ,hk⟩ hz;have cx2:=hk.cel (cx.kept b3) kx;have cw2:=hk.cel (cw.kept b3) kw;have cT3:=hk.cel cT2 (hKW _ (Nat.le_refl _));have hx2:=hk.wd (hx.keep b3) ka;have Y:=hY q
  clear hY G cB cT cT2 b1 b2 z1 cx cw hx hy h0;have m4:=cx2.cell 4 rfl;have m5:=cx2.cell 5 rfl;have mw:=cw2.cell 0 rfl;have mt:=cT3.cell 0 rfl;have h20:=gS n mm (by have:=F.hn;omega)
  obtain⟨sE,sX⟩:=zF F q hq;have lowl:numAt (wdF n mm) xs q<2^wdF n mm:=gI _ _
  have hck:ar LM xs=true:=by
   have:=F.ik;unfold aZ at this;rw[Bool.and_eq_true]at this;exact this.2
  have RS:=jb (bitAt ys) hh;have hge:=RS.step q 0 (by omega);rw[Nat.zero_add]at hge;have hll:=RS.1 q (by omega);have hhl:=(bp _ _ F.ck).2.1;have mn:=Nat.le_trans F.hm F.hn;unfold plq at Y
  generalize gt (plc (bitAt ys) hh) q=at_ at *;generalize wdF n mm=v at *;have SC:=fun w0 h=>zD ao xs cap fx q v LM (by omega) h20 sE sX w0 h;have SC:=aG SC;clear sE sX;generalize numAt v xs q=low at *
  obtain⟨d,hd⟩:∃d,Hid (d=at_-q):=⟨_,rfl⟩;have hd2:(at_:Int)-(q:Int)=(d:Int):=by rw[hd.out];omega
  have dl:d<=1048576:=by rw[hd.out];omega
  rw[<-hd.out]at Y;clear hge hll hhl RS hck
  have eA:((d*2^v+low:Nat):Int)=bits BinOp.or IntKind.i64 (IntKind.i64.wrap (IntKind.i64.wrap (d:Int)*2^v)) (IntKind.i64.wrap (low:Int)):=by
   have p20:2^v<=1048576:=Nat.pow_le_pow_right (show 0<2 by decide) h20;have pd:d*2^v<=1099511627776:=Nat.le_trans (Nat.mul_le_mul dl p20) (by decide)
   have e1:IntKind.i64.wrap (d:Int)=(d:Int):=by rw[IntKind.wrap_i64];omega
   have e2:(d:Int)*2^v=((d*2^v:Nat):Int):=by rw[Int.natCast_mul,Int.natCast_pow];rfl
   have e3:IntKind.i64.wrap ((d*2^v:Nat):Int)=((d*2^v:Nat):Int):=by rw[IntKind.wrap_i64];omega
   have e4:IntKind.i64.wrap (low:Int)=(low:Int):=by rw[IntKind.wrap_i64];omega
   rw[e1,e2,e3,e4,bits_join .i64 63 (by decide) rZ v _ _ (by omega) ?_ (by omega) (by omega) ?_ (by omega)]
   .rfl
   .rw[show((2:Int)^v)=((2^v:Nat):Int)by rw[Int.natCast_pow];rfl,<-Int.natCast_emod,Nat.mul_mod_left];rfl
   .rw[show((2:Int)^v)=((2^v:Nat):Int)by rw[Int.natCast_pow];rfl];omega
  rw[eA]at Y;clear eA;gi_wp2_with fail;refine⟨trivial,rfl,?_⟩;refine(CallsIn.inRound l1 (callsIn_wide.2 (SC.out _ hx2))).mono ?_;rintro e w1 ⟨rfl,hb⟩;replace cw2:=cw2.kept hb;replace cT3:=cT3.kept hb
  have kb:az K Wc w1:=az.of hb;have mw:=cw2.cell 0 rfl;have mt:=cT3.cell 0 rfl;clear cx2 m4 m5 SC;gi_wp2_with fail
  refine pM [] (fun w0=>w0.cell? ⟨W.heap.size,0,none⟩=some (.func (.yield l) #[] #[])/\w0.cell? ⟨Bw,0,none⟩=some (.int .i64 (v:Nat))) (by kernel_rfl) ?_
  have hS:(fun w0:World=>w0.cell? ⟨W.heap.size,0,none⟩=some (.func (.yield l) #[] #[])/\w0.cell? ⟨Bw,0,none⟩=some (.int .i64 (v:Nat))) w1.drew:=⟨mt,mw⟩
  have HJ1:=hJ q Wc w1.drew HJ ((hb.mono (show W.heap.size<=Wc.heap.size by omega)).drew);obtain⟨fn,tmps,assign,body,hy,hR⟩:=Y w1.drew hq HJ1 (by have:=hb.size;show W.heap.size<=w1.heap.size;omega);clear Y HJ1
  refine aI.take 0 (v:=?vv1) (bG _) rfl (by kernel_rfl) (by kernel_rfl) (by kernel_rfl) (by kernel_rfl) (by kernel_rfl) (fun _ _ _ h=>h) hS ?hy1 (by rfl) ?rest1
  case hy1=>
   intro w0 h0;have:=h0.1;go_simp;try with_reducible rfl
  simp only[Act.put,ak,aj,ai,ae,ah,ag];refine aI.take 1 (v:=?vv2) (bG _) rfl (by kernel_rfl) (by kernel_rfl) (by kernel_rfl) (by kernel_rfl) (by kernel_rfl) (fun _ _ _ h=>h) hS ?hy2 (by rfl) ?rest2
  case hy2=>
   intro w0 h0;go_simp;try with_reducible rfl
  simp only[Act.put,ak,aj,ai,ae,ah,ag];refine aI.take 2 (v:=?vv3) (bG _) rfl (by kernel_rfl) (by kernel_rfl) (by kernel_rfl) (by kernel_rfl) (by kernel_rfl) (fun _ _ _ h=>h) hS ?hy3 (by rfl) ?rest3
  case hy3=>
   intro w0 h0;go_simp;try with_reducible rfl
  simp only[Act.put,ak,aj,ai,ae,ah,ag];refine aI.take 3 (v:=?vv4) (bG _) rfl (by kernel_rfl) (by kernel_rfl) (by kernel_rfl) (by kernel_rfl) (by kernel_rfl) (fun _ _ _ h=>h) hS ?hy4 (by rfl) ?rest4
  case hy4=>
   intro w0 h0;go_simp;try with_reducible rfl
  simp only[Act.put,ak,aj,ai,ae,ah,ag];refine aI.take 4 (v:=?vv5) (bG _) rfl (by kernel_rfl) (by kernel_rfl) (by kernel_rfl) (by kernel_rfl) (by kernel_rfl) (fun _ _ _ h=>h) hS ?hy5 (by rfl) ?rest5
  case hy5=>
   intro w0 h0;go_simp;try with_reducible rfl
  simp only[Act.put,ak,aj,ai,ae,ah,ag];refine aI.take 5 (v:=?vv6) (bG _) rfl (by kernel_rfl) (by kernel_rfl) (by kernel_rfl) (by kernel_rfl) (by kernel_rfl) (fun _ _ _ h=>h) hS ?hy6 (by rfl) ?rest6
  case hy6=>
   intro w0 h0;have:=h0.2;go_simp;try with_reducible rfl
  simp only[Act.put,ak,aj,ai,ae,ah,ag];refine aI.take 6 (v:=?vv7) (bG _) rfl (by kernel_rfl) (by kernel_rfl) (by kernel_rfl) (by kernel_rfl) (by kernel_rfl) (fun _ _ _ h=>h) hS ?hy7 (by rfl) ?rest7
  case hy7=>
   intro w0 h0;go_simp;try with_reducible rfl
  simp only[Act.put,ak,aj,ai,ae,ah,ag];refine aI.take 7 (v:=?vv8) (bG _) rfl (by kernel_rfl) (by kernel_rfl) (by kernel_rfl) (by kernel_rfl) (by kernel_rfl) (fun _ _ _ h=>h) hS ?hy8 (by rfl) ?rest8
  case hy8=>
   intro w0 h0;go_simp;try with_reducible rfl
  simp only[Act.put,ak,aj,ai,ae,ah,ag];refine aI.take 8 (v:=?vv9) (bG _) rfl (by kernel_rfl) (by kernel_rfl) (by kernel_rfl) (by kernel_rfl) (by kernel_rfl) (fun _ _ _ h=>h) hS ?hy9 (by rfl) ?rest9
  case hy9=>
   intro w0 h0;go_simp;try with_reducible rfl
  simp only[Act.put,ak,aj,ai,ae,ah,ag];refine aI.take 9 (v:=?vv10) (bG _) rfl (by kernel_rfl) (by kernel_rfl) (by kernel_rfl) (by kernel_rfl) (by kernel_rfl) (fun _ _ _ h=>h) hS ?hy10 (by rfl) ?rest10
  case hy10=>
   intro w0 h0;go_simp;try with_reducible rfl
  simp only[Act.put,ak,aj,ai,ae,ah,ag];refine aI.one 10 (bG _) (by kernel_rfl) rfl (fun _ h=>by cases h) (by rfl) ?_;intro K2 hK2;go_simp;refine⟨rfl,RoundIn.mono hR ?_⟩
  rintro e W3 ⟨hkp,⟨rfl,hJ3⟩ | ⟨rfl,hJx3⟩⟩
  .have HE:Hid (az K Wc W3/\J (q+1) W3/\az K w' W3):=⟨kb.trans ⟨hkp.os,hkp.tape,hkp.output,hkp.size,hkp.same⟩,hJ3,hk.trans (kb.trans ⟨hkp.os,hkp.tape,hkp.output,hkp.size,hkp.same⟩)⟩
   have hS3:W3.cell? ⟨W.heap.size,0,none⟩=some (.func (.yield l) #[] #[])/\W3.cell? ⟨Bw,0,none⟩=some (.int .i64 (v:Nat)):=⟨(hkp.cel cT3.drew (hKW _ (Nat.le_refl _))).cell 0 rfl,(hkp.cel cw2.drew kw).cell 0 rfl⟩
   refine hK2.out _ _ (fun _=>hS3) ?_;clear hK2 K2;try simp only[Act.put,ak,aj,ai,ae,ah,ag]
   refine aI.take 11 (v:=?vv31) (bG _) rfl (by kernel_rfl) (by kernel_rfl) (by kernel_rfl) (by kernel_rfl) (by kernel_rfl) (fun _ _ _ h=>h) hS3 ?hy31 (by rfl) ?rest31
   case hy31=>
    intro w0 h0;go_simp;try with_reducible rfl
   simp only[Act.put,ak,aj,ai,ae,ah,ag];refine aI.done (by kernel_rfl) ?_ _;skip;gi_wp2;exact HE.out
  .have HE:Hid (az K Wc W3/\Jx q W3):=⟨kb.trans ⟨hkp.os,hkp.tape,hkp.output,hkp.size,hkp.same⟩,hJx3⟩
   have hS3:W3.cell? ⟨W.heap.size,0,none⟩=some (.func (.yield l) #[] #[])/\W3.cell? ⟨Bw,0,none⟩=some (.int .i64 (v:Nat)):=⟨(hkp.cel cT3.drew (hKW _ (Nat.le_refl _))).cell 0 rfl,(hkp.cel cw2.drew kw).cell 0 rfl⟩
   refine hK2.out _ _ (fun _=>hS3) ?_;clear hK2 K2;try simp only[Act.put,ak,aj,ai,ae,ah,ag]
   refine aI.take 11 (v:=?vv41) (bG _) rfl (by kernel_rfl) (by kernel_rfl) (by kernel_rfl) (by kernel_rfl) (by kernel_rfl) (fun _ _ _ h=>h) hS3 ?hy41 (by rfl) ?rest41
   case hy41=>
    intro w0 h0;go_simp;try with_reducible rfl
   simp only[Act.put,ak,aj,ai,ae,ah,ag];refine aI.done (by kernel_rfl) ?_ _;skip;gi_wp2;exact HE.out
 case done=>
  rintro D Wc hD ⟨HJ,hk⟩ hd;go_wp2;exact DB hd (results_none rfl _ _ _) ⟨⟨_,rfl⟩,.inl (hJ _ _ _ HJ (du (by omega) _))⟩
 case stop=>
  rintro D q Wc hD hq HJ hd;go_wp2;exact fc hd (results_none rfl _ _ _) ⟨⟨_,rfl⟩,.inr ⟨q,hq,hJx _ _ _ HJ (du (by omega) _)⟩⟩
theorem kQ(n mm kn vn hh:Nat)(LM:Int)(ao:Option Addr)(xs:List Nat)(cap:Nat)(qo:Option Addr)(ys:List Nat)(dap:Nat)(hn:n<=1048576)(hm:mm<=n)(w:World):
  Calls prog 202 #[.agg #[.int .i64 (n:Nat),.int .i64 (mm:Nat),.int .i64 (kn:Nat),.int .i64 (vn:Nat),.int .i64 LM,.slice ao xs.length cap,.int .i64 (hh:Nat),.slice qo ys.length dap]] w fun e w'=>e=.returned (.func (.func 257) #[] #[.pointer (some ⟨w.heap.size,0,none⟩),.pointer (some ⟨w.heap.size+1,0,none⟩)])/\aa w' w.heap.size [.int .i64 (n:Nat),.int .i64 (mm:Nat),.int .i64 (kn:Nat),.int .i64 (vn:Nat),.int .i64 LM,.slice ao xs.length cap,.int .i64 (hh:Nat),.slice qo ys.length dap] 42/\aa w' (w.heap.size+1) [.int .i64 (wdF n mm:Nat)] 3/\w'.heap.size=w.heap.size+2/\Below w.heap.size w w':=by
 have C:Hid (∀w0,Qx 230 #[.int .i64 n,.int .i64 mm] w0 (.int .i64 (wdF n mm))):=fun w0=>om n mm hn hm w0;generalize wdF n mm=v at *
 obtain⟨W,hW⟩:∃W,W=w.alloc (.cells #[.int .i64 (n:Nat),.int .i64 (mm:Nat),.int .i64 (kn:Nat),.int .i64 (vn:Nat),.int .i64 LM,.slice ao xs.length cap,.int .i64 (hh:Nat),.slice qo ys.length dap] 42):=⟨_,rfl⟩
 have bW:=aM hW;have zW:W.heap.size=w.heap.size+1:=by rw[hW];simp
 have B1:=aU hW;go_enter func202,ntmps202;go_wp2_with fail;rw[<-hW];refine mr (C.out _) fun w1 h1=>?_;rw[h1];clear h1 w1 hW;have bA:=below_alloc W (.cells #[.int .i64 (v:Nat)] 3)
 have HZ:Hid (aa (W.alloc (.cells #[.int .i64 (v:Nat)] 3)) w.heap.size [.int .i64 (n:Nat),.int .i64 (mm:Nat),.int .i64 (kn:Nat),.int .i64 (vn:Nat),.int .i64 LM,.slice ao xs.length cap,.int .i64 (hh:Nat),.slice qo ys.length dap] 42/\aa (W.alloc (.cells #[.int .i64 (v:Nat)] 3)) (w.heap.size+1) [.int .i64 (v:Nat)] 3/\(W.alloc (.cells #[.int .i64 (v:Nat)] 3)).heap.size=w.heap.size+2/\Below w.heap.size w (W.alloc (.cells #[.int .i64 (v:Nat)] 3))):=⟨B1.kept bA,by rw[<-zW];exact aa.new W _ _,by simp[zW],bg bW bA⟩
 clear B1 bA bW;go_wp2;go_ret;exact⟨rfl,HZ.out⟩
end Go.Proofs.YtleegaihbgbcjaaGreatDoor
namespace Go.Proofs.YtleegaihbgbcjaaGreatDoor
open Num Bit
abbrev bm:=FA
def rh(a b:FA):Bool:=decide (a.N=b.N)&&decide (a.M=b.M)&&(decide (a.k=b.k)&&decide (a.V=b.V)&&(decide (a.LM=b.LM)&&decide (a.xs=b.xs)))&&(decide (a.H=b.H)&&decide (a.ys=b.ys))
theorem rf(a b:FA):rh a b=true↔a=b:=by
 obtain⟨a1,a2,a3,a4,a5,a6,a7,a8⟩:=a;obtain⟨b1,b2,b3,b4,b5,b6,b7,b8⟩:=b;unfold rh;simp only[Bool.and_eq_true,decide_eq_true_eq,FA.mk.injEq];constructor
 .rintro⟨⟨⟨rfl,rfl⟩,⟨rfl,rfl⟩,rfl,rfl⟩,rfl,rfl⟩;exact⟨rfl,rfl,rfl,rfl,rfl,rfl,rfl,rfl⟩
 .rintro⟨rfl,rfl,rfl,rfl,rfl,rfl,rfl,rfl⟩;exact⟨⟨⟨rfl,rfl⟩,⟨rfl,rfl⟩,rfl,rfl⟩,rfl,rfl⟩
def kOk9(a:bm):Bool:=
 match gL a with
 | some l=>rh a (cK a.N.toNat l)
 | none=>false
def kRow(a:bm):List Nat:=(gL a).getD []
def kBN9(a:bm):Int:=if kOk9 a=true then a.N else 0
def kBX9(a:bm):List Nat:=if kOk9 a=true then rowOf a.N.toNat (isIn (kRow a))else []
def kZ9(a:bm):Int:=if kOk9 a=true then a.LM+a.H+64 else 0
def kB9(N:Int)(xs:List Nat):bm:=if ar N xs=true then cK N.toNat (plc (bitAt xs) N.toNat)else ⟨0,0,0,0,0,[],0,[]⟩
def kE9(N:Int)(xs:List Nat):Int:=if ar N xs=true then 0 else 2
theorem qx(a:bm)(h:kOk9 a=true):gL a=some (kRow a)/\a=cK a.N.toNat (kRow a):=by
 unfold kOk9 at h;unfold kRow;cases e:gL a with
 | none=>rw[e]at h;cases h
 | some l=>
  rw[e]at h;exact⟨rfl,(rf _ _).1 h⟩
theorem GT(n w:Nat)(lo hi:List Nat):∀q out,eP n w lo hi q=some out->∀j,j<q->gt out j=gu w lo hi j:=by
 intro q;induction q with
 | zero=>intro out _ j hj;omega
 | succ q ih=>
  intro out h j hj;rw[eP]at h;cases hq:eP n w lo hi q with
  | none=>rw[hq]at h;cases h
  | some o=>
   rw[hq]at h;have hlen:=(re n w lo hi q o hq).1;simp only at h;split at h
   .cases h
   .obtain rfl:=Option.some.inj h;by_cases c:j<q
    .rw[jr o _ j (by omega)];exact ih o hq j c
    .obtain rfl:j=o.length:=by omega
     rw[kP,hlen]
theorem vZ(m:Nat)(f:Nat->Nat)(i:Nat)(h:i<m):gt ((List.range m).map f) i=f i:=by
 unfold gt;rw[List.getD_eq_getElem?_getD,List.getElem?_map,List.getElem?_range h];rfl
theorem GS(n w:Nat)(lo hi:List Nat):∀m,(∀q,q<m->gu w lo hi q<n/\(0<q->gu w lo hi (q-1)<gu w lo hi q))->eP n w lo hi m=some ((List.range m).map (gu w lo hi)):=by
 intro m;induction m with
 | zero=>intro _;rfl
 | succ m ih=>
  intro h;rw[eP,ih (fun q hq=>h q (by omega))];simp only;obtain⟨h1,h2⟩:=h m (by omega);rw[if_neg,List.range_succ,List.map_append]
  .rfl
  .rintro(c | ⟨c1,c2⟩)
   .omega
   .rw[vZ m _ _ (by omega)]at c2;have:=h2 c1;omega
def o_(n mm:Nat)(p:Nat->Nat):Prop:=∀q,q<mm->p q<n/\(0<q->p (q-1)<p q)
theorem ji(n mm kn vn hh:Nat)(LM:Int)(xs ys:List Nat)(h:kOk9 ⟨n,mm,kn,vn,LM,xs,hh,ys⟩=true):
  fE n mm kn vn LM xs hh ys/\(kRow ⟨n,mm,kn,vn,LM,xs,hh,ys⟩).length=mm/\(∀q,q<mm->plq n mm xs hh ys q=gt (kRow ⟨n,mm,kn,vn,LM,xs,hh,ys⟩) q)/\aR (kRow ⟨n,mm,kn,vn,LM,xs,hh,ys⟩) n:=by
 obtain⟨h1,h2⟩:=qx _ h;generalize kRow ⟨n,mm,kn,vn,LM,xs,hh,ys⟩=l at *;unfold gL at h1;simp only[Int.toNat_natCast]at h1;split at h1
 .rename_i c;obtain⟨⟨c1,c2,c3,c4⟩,c5,c6,c7,c8⟩:=c;have c7:(plc (bitAt ys) hh).length=mm:=by omega
  obtain⟨l1,l2⟩:=re _ _ _ _ _ _ h1;rw[c7]at l1;have l3:=GT _ _ _ _ _ _ h1;rw[c7]at l3;simp only[Int.toNat_natCast,cK,FA.mk.injEq,l1]at h2;obtain⟨-, -,e3,e4, -, -,e7, -⟩:=h2
  have F:fE n mm kn vn LM xs hh ys:=by
   refine⟨by omega,by omega,c5,c6,c7,by omega,?_,?_⟩
   .unfold loN;by_cases c:wdF n mm=0
    .rw[if_pos c];rw[c]at e3;have:loP l 0=[]:=rfl;rw[this]at e3;simp at e3;omega
    .rw[if_neg c];rw[jN l _ (by omega)]at e3;omega
   .unfold hiN at e7;rw[l1]at e7;omega
  exact⟨F,l1,fun q hq=>by rw[l3 q hq,oD F q hq],l2⟩
 .cases h1
theorem t_(n mm:Nat)(xs:List Nat)(hh:Nat)(ys:List Nat)(q:Nat):plq n mm xs hh ys q/2^wdF n mm=gt (plc (bitAt ys) hh) q-q/\plq n mm xs hh ys q%2^wdF n mm=numAt (wdF n mm) xs q:=by
 unfold plq;have h:numAt (wdF n mm) xs q<2^wdF n mm:=gI _ _;have hp:=Nat.two_pow_pos (wdF n mm);rw[Nat.mul_comm,Nat.mul_add_div hp,Nat.mul_add_mod,Nat.mod_eq_of_lt h,Nat.div_eq_of_lt h];exact⟨rfl,rfl⟩
theorem vB(f:Nat->Bool)(n j:Nat):isIn (plc f n) j=(decide (j<n)&&f j):=by
 rw[Bool.eq_iff_iff,uK,uJ,Bool.and_eq_true,decide_eq_true_eq]
theorem GB(n mm kn vn hh:Nat)(LM:Int)(xs ys:List Nat)(fx:Fit xs)(fy:Fit ys)(F:fE n mm kn vn LM xs hh ys)(G:o_ n mm (plq n mm xs hh ys)):kOk9 ⟨n,mm,kn,vn,LM,xs,hh,ys⟩=true:=by
 have hd:eP n (wdF n mm) ((List.range kn).map (numAt vn xs)) (plc (bitAt ys) hh) mm=some ((List.range mm).map (plq n mm xs hh ys)):=by
  rw[GS _ _ _ _ mm]
  .congr 1;refine List.map_congr_left fun q hq=>?_;exact oD F q (List.mem_range.1 hq)
  .intro q hq;rw[oD F q hq];obtain⟨g1,g2⟩:=G q hq;refine⟨g1,fun h0=>?_⟩;rw[oD F (q-1) (by omega)];exact g2 h0
 have hrow:gL ⟨n,mm,kn,vn,LM,xs,hh,ys⟩=some ((List.range mm).map (plq n mm xs hh ys)):=by
  unfold gL;simp only[Int.toNat_natCast,F.on];rw[if_pos]
  .exact hd
  .refine⟨⟨by omega,by have:=F.hn;omega,by omega,by have:=F.hm;omega⟩,F.ik,F.ck,trivial,?_⟩;by_cases c:wdF n mm=0
   .exact .inl c
   .right;rw[List.length_map,List.length_range,F.hk];unfold loN;rw[if_neg c]
 unfold kOk9;rw[hrow];simp only[Int.toNat_natCast];rw[rf];obtain⟨l,hl⟩:∃l,l=(List.range mm).map (plq n mm xs hh ys):=⟨_,rfl⟩;have ll:l.length=mm:=by rw[hl];simp
 have lg:∀q,q<mm->gt l q=plq n mm xs hh ys q:=fun q hq=>by rw[hl];exact vZ mm _ q hq
 rw[<-hl];have RS:=jb (bitAt ys) hh
 have e_hi:hiP l (wdF n mm)=plc (bitAt ys) hh:=by
  refine Bit.list_ext _ _ (by rw[kC,ll,F.on]) fun i hi=>?_;rw[kC,ll]at hi;rw[kN l _ i (by omega),lg i hi,(t_ n mm xs hh ys i).1];have:=RS.step i 0 (by rw[F.on];omega)
  rw[Nat.zero_add]at this;omega
 obtain⟨v1,v2,v3,v4,v5,v6,v7,v8⟩:=iJ _ _ _ _ F.ik
 have e_lo:(loP l (wdF n mm)).length=kn:=by
  rw[F.hk];unfold loN;by_cases c:wdF n mm=0
  .rw[if_pos c,c];rfl
  .rw[if_neg c,jN l _ (by omega),ll]
 have e_xs:mkS (loP l (wdF n mm)) vn kn=xs:=by
  have hx:=kY LM xs fx v5;rw[hx];unfold mkS;rw[e_lo,show LM.toNat=kn*vn by rw[<-v4,<-Int.natCast_mul,Int.toNat_natCast]];refine dd _ _ _ fun j hj=>?_;rw[decide_eq_true hj,Bool.true_and]
  have hw:¬wdF n mm=0:=fun c=>by
   have h0:kn=0:=by rw[F.hk];unfold loN;rw[if_pos c]
   rw[h0,Nat.zero_mul]at hj;omega
  have e1:vn=wdF n mm:=by rw[F.hv];omega
  have e2:kn=mm:=by rw[F.hk];unfold loN;rw[if_neg hw]
  have hv0:0<vn:=by omega
  have hq:j/vn<mm:=by rw[<-e2];exact(Nat.div_lt_iff_lt_mul hv0).2 hj
  have hmod:j%vn<vn:=Nat.mod_lt _ hv0;rw[oy l _ _ (by omega) (by omega),lg _ hq,(t_ n mm xs hh ys _).2,<-e1];unfold numAt
  rw[fG,decide_eq_true hmod,Bool.true_and,Nat.mul_comm,Nat.div_add_mod]
 unfold cK;simp only[FA.mk.injEq,ll];have hv:((max (wdF n mm) 1:Nat):Int)=(vn:Int):=by rw[F.hv]
 have hv2:max (wdF n mm) 1=vn:=F.hv.symm;refine⟨trivial,trivial,by rw[e_lo],hv.symm,?_,?_,?_,?_⟩
 .rw[e_lo,hv,v4]
 .rw[hv2,e_lo,e_xs]
 .unfold hiN;rw[ll,F.hh]
 .rw[e_hi];have e3:hiN l n (wdF n mm)=hh:=by unfold hiN;rw[ll,F.hh]
  rw[e3];have hy:=kY (hh:Int) ys fy F.ck;rw[Int.toNat_natCast]at hy;rw[dd hh _ (bitAt ys) fun j hj=>by rw[vB,decide_eq_true hj,Bool.true_and]];exact hy
open Go.RowKit Go.Shelf Num Bit
attribute [local go_sem] Oper.semAt_some
theorem Wd.blk{w:World}{ao:Option Addr}{xs:List Nat}(h:Wd w ao xs){p:Addr}(hp:ao=some p)(h0:0<xs.length):p.block<w.heap.size:=by
 obtain⟨g,off,e,hg,_⟩:=h h0;rw[e]at hp;cases hp;exact hg
theorem aa.at{w:World}{b b':Nat}{cs:List Value}{T:TypeId}(h:aa w b cs T)(e:b=b'):aa w b' cs T:=e ▸ h
theorem aa.put{w:World}{b D:Nat}{cs:List Value}{T:TypeId}(h:aa w b cs T)(o:Obj)(e:b≠D):aa (w.putObj D o) b cs T:=(World.putObj_heap_other e).trans h
theorem Fm{l:List Nat}{n:Nat}(hr:aR l n)(i q:Nat)(hq:q<l.length)(h1:∀j,j<q->gt l j<i)(h2:i<=gt l q):isIn l i=decide (gt l q=i):=by
 by_cases c:gt l q=i
 .rw[decide_eq_true c,fg];exact⟨q,hq,c⟩
 .rw[decide_eq_false c];refine Bool.eq_false_iff.2 fun h=>?_;obtain⟨j,hj,e⟩:=(fg l i).1 h;by_cases d:j<q
  .have:=h1 j d;omega
  .by_cases e2:j=q
   .subst e2;exact c e
   .have:=hr.lt (show q<j by omega) hj;omega
theorem Fl{l:List Nat}(i:Nat)(h1:∀j,j<l.length->gt l j<i):isIn l i=false:=by
 refine Bool.eq_false_iff.2 fun h=>?_;obtain⟨j,hj,e⟩:=(fg l i).1 h;have:=h1 j hj;omega
theorem FZ(n mm kn vn hh:Nat)(LM:Int)(ao:Option Addr)(xs:List Nat)(cap:Nat)(qo:Option Addr)(ys:List Nat)(dap:Nat)(l:List Nat)(w:World)(F:fE n mm kn vn LM xs hh ys)(hx:Wd w ao xs)(fx:Fit xs)(hy:Wd w qo ys)(fy:Fit ys)(hl:l.length=mm)(hg:∀q,q<mm->plq n mm xs hh ys q=gt l q)(hr:aR l n)(i:Nat)(hi:i<=1048576):
  Qq 177 #[.agg #[.int .i64 (n:Nat),.int .i64 (mm:Nat),.int .i64 (kn:Nat),.int .i64 (vn:Nat),.int .i64 LM,.slice ao xs.length cap,.int .i64 (hh:Nat),.slice qo ys.length dap],.int .i64 i] w (.bool (isIn l i)):=by
 refine(callsIn_wide (n:=0)).1 (callsIn_of_wp_marks func177 rfl trivial ?_)
 simp only[ntmps177,List.size_toArray,List.length_cons,List.length_nil,Nat.reduceAdd,Nat.reduceSub,Array.replicate_succ,Array.replicate_zero,List.push_toArray,List.append_toArray,List.nil_append,List.cons_append]
 refine wpIn_wide.2 ?_
 have PC:Hid (∀w0,Calls prog 202 #[.agg #[.int .i64 (n:Nat),.int .i64 (mm:Nat),.int .i64 (kn:Nat),.int .i64 (vn:Nat),.int .i64 LM,.slice ao xs.length cap,.int .i64 (hh:Nat),.slice qo ys.length dap]] w0 fun e w'=>e=.returned (.func (.func 257) #[] #[.pointer (some ⟨w0.heap.size,0,none⟩),.pointer (some ⟨w0.heap.size+1,0,none⟩)])/\aa w' w0.heap.size [.int .i64 (n:Nat),.int .i64 (mm:Nat),.int .i64 (kn:Nat),.int .i64 (vn:Nat),.int .i64 LM,.slice ao xs.length cap,.int .i64 (hh:Nat),.slice qo ys.length dap] 42/\aa w' (w0.heap.size+1) [.int .i64 (wdF n mm:Nat)] 3/\w'.heap.size=w0.heap.size+2/\Below w0.heap.size w0 w'):=fun w0=>kQ n mm kn vn hh LM ao xs cap qo ys dap F.hn F.hm w0
 obtain⟨W1,hW1⟩:∃W1,W1=((w.alloc (.cells #[.int .i64 (n:Nat),.int .i64 (mm:Nat),.int .i64 (kn:Nat),.int .i64 (vn:Nat),.int .i64 LM,.slice ao xs.length cap,.int .i64 (hh:Nat),.slice qo ys.length dap] 42)).alloc (.cells #[.int .i64 (i:Nat)] 3)).alloc (.cells #[.bool false] 4):=⟨_,rfl⟩
 have z1:W1.heap.size=w.heap.size+3:=by rw[hW1];simp
 have b1:Below w.heap.size w W1:=by rw[hW1];exact(((below_alloc w _).alloc (by simp only[World.size_alloc];omega) _).alloc (by simp only[World.size_alloc];omega) _)
 have c0:aa W1 (w.heap.size+0) [.int .i64 (n:Nat),.int .i64 (mm:Nat),.int .i64 (kn:Nat),.int .i64 (vn:Nat),.int .i64 LM,.slice ao xs.length cap,.int .i64 (hh:Nat),.slice qo ys.length dap] 42:=by rw[hW1];exact((((aa.new _ _ _).alloc _).alloc _)).at (by simp)
 have c1:aa W1 (w.heap.size+1) [.int .i64 (i:Nat)] 3:=by rw[hW1];exact(((aa.new _ _ _).alloc _)).at (by simp)
 have c2:aa W1 (w.heap.size+2) [.bool false] 4:=by rw[hW1];exact((aa.new _ _ _)).at (by simp)
 go_wp2_with fail;rw[<-hW1];clear hW1;refine(PC.out _).mono ?_;rintro e w' ⟨rfl,cx,cw,z2,b2⟩;rw[z1]at cx cw z2;rw[z1];have b3:Below w.heap.size w w':=bg b1 b2;replace c0:=c0.kept b2
 replace c1:=c1.kept b2;replace c2:=c2.kept b2;go_wp2;clear b1 b2 PC
 have G:=(kh n mm kn vn hh LM ao xs cap qo ys dap (fun b=>b≠w.heap.size+2/\b≠w'.heap.size+1) w' (w.heap.size+3) (w.heap.size+4) F (hx.keep b3) fx (hy.keep b3) fy cx cw (by omega) (by omega) (fun p hp h0=>by have:=hx.blk hp h0;omega) (fun p hp h0=>by have:=hy.blk hp h0;omega)).enc (enc':=fun q=>#[.int .i64 q,.int .i64 (gt l q:Nat)]) (fun q hq=>by rw[hg q hq])
 refine iC (gf:=257) (lb:=#[.pointer (some ⟨w.heap.size+3,0,none⟩),.pointer (some ⟨w.heap.size+4,0,none⟩)]) (K:=fun b=>b≠w.heap.size+2) rfl (enters_of func257 (by kernel_rfl) rfl) (fun _=>rfl) G (fun b hb=>by omega)
  (fun q Wc=>az (fun b=>b≠w.heap.size+2) w' Wc/\aa Wc (w.heap.size+2) [.bool false] 4/\∀j,j<q->gt l j<i) (fun q Wc=>az (fun b=>b≠w.heap.size+2) w' Wc/\aa Wc (w.heap.size+2) [.bool (isIn l i)] 4) (fun q A B h hb=>⟨h.1.more hb (Nat.le_refl _),h.2.1.keep hb (by omega),h.2.2⟩) (fun q A B h hb=>⟨h.1.more hb (Nat.le_refl _),h.2.keep hb (by omega)⟩) ⟨az.refl _ _,c2,fun j hj=>absurd hj (by omega)⟩
  (fun q=>{ tmps:=#[.agg #[.int .i64 (n:Nat),.int .i64 (mm:Nat),.int .i64 (kn:Nat),.int .i64 (vn:Nat),.int .i64 LM,.slice ao xs.length cap,.int .i64 (hh:Nat),.slice qo ys.length dap],.int .i64 (i:Nat),.pointer (some ⟨w.heap.size,0,none⟩),.pointer (some ⟨w.heap.size+1,0,none⟩),.pointer (some ⟨w.heap.size+2,0,none⟩),undef,.int .i64 (gt l q:Nat),.agg #[.int .i64 (n:Nat),.int .i64 (mm:Nat),.int .i64 (kn:Nat),.int .i64 (vn:Nat),.int .i64 LM,.slice ao xs.length cap,.int .i64 (hh:Nat),.slice qo ys.length dap],.func (.func 257) #[] #[.pointer (some ⟨w.heap.size+3,0,none⟩),.pointer (some ⟨w.heap.size+4,0,none⟩)],.int .i64 (q:Nat),.int .i64 (gt l q:Nat),undef,undef,undef,undef,undef,undef],defers:=[] }) ?assign ?body ?done ?stop
 case assign=>
  intro l1 q Wc K1 hK1;gi_wp2;exact hK1
 case body=>
  rintro l1 q Wc hq ⟨hk,cR,hlt⟩ hz;have cI:=(hk.cel c1 (by omega)).cell 0 rfl;have r0:=cR.cell 0 rfl;have r1:=cR.frozen 0;clear G;have HV:=aG (Fm hr i q (by omega) hlt);by_cases hge:i<=gt l q
  .have hge2:(i:Int)<=(gt l q:Int):=by omega
   have HX:Hid (az (fun b=>b≠w.heap.size+2) Wc (Wc.setCell ⟨w.heap.size+2,0,none⟩ (.bool (isIn l i)))/\az (fun b=>b≠w.heap.size+2) w' (Wc.setCell ⟨w.heap.size+2,0,none⟩ (.bool (isIn l i)))/\aa (Wc.setCell ⟨w.heap.size+2,0,none⟩ (.bool (isIn l i))) (w.heap.size+2) [.bool (isIn l i)] 4):=⟨(az.refl _ _).setCell (fun h=>h rfl) _,hk.setCell (fun h=>h rfl) _,cR.set 0 _⟩
   rw[HV.out hge]at HX;rw[show decide (gt l q=i)=((gt l q:Int)==(i:Int))by rw[Bool.eq_iff_iff];simp;omega]at HX;gi_wp2;refine⟨HX.out.1,HX.out.2.1,?_⟩
   rw[HV.out hge,show decide (gt l q=i)=((gt l q:Int)==(i:Int))by rw[Bool.eq_iff_iff];simp;omega];exact HX.out.2.2
  .have hge2:¬(i:Int)<=(gt l q:Int):=by omega
   gi_wp2
   exact⟨az.refl _ _,hk,cR,fun j hj=>by
    by_cases e:j=q
    .subst e;omega
    .exact hlt j (by omega)⟩
 case done=>
  rintro D Wc hD ⟨hk,cR,hlt⟩ hd;have r0:=cR.cell 0 rfl;have r1:=cR.frozen 0;have hB:=aG ((hk.below (B:=w.heap.size) (fun x h=>by omega) (by omega)))
  have HE:=aG (Fl (l:=l) i (fun j hj=>hlt j (by omega)));have hb:=aG (hB.out.setCell (p:=⟨w.heap.size+2,0,none⟩) (show w.heap.size<=w.heap.size+2 by omega) (.bool false))
  have cS:=aG (cR.set 0 (.bool false));have hd2:=aG ((Below.heap_setCell Wc ⟨w.heap.size+2,0,none⟩ (.bool false) D (show D≠w.heap.size+2 by omega)).trans hd);clear hd hk;go_wp2
  have cR2:=(cS.out.put (.deferred none) (show w.heap.size+2≠D by omega)).cell 0 rfl
  exact fc hd2.out (v:=.bool (isIn l i)) (by rw[HE.out];simp[results,Tryz.results177,go_sem,cR2]) ⟨rfl,b3.trans (hb.out.trans (du (by omega) _))⟩
 case stop=>
  rintro D q Wc hD hq ⟨hk,cR⟩ hd;go_wp2;have cR2:=(cR.put (.deferred none) (show w.heap.size+2≠D by omega)).cell 0 rfl
  exact fc hd (v:=.bool (isIn l i)) (by simp[results,Tryz.results177,go_sem,cR2]) ⟨rfl,b3.trans ((hk.below (fun x h=>by omega) (by omega)).trans (du (by omega) _))⟩
structure pf (l:List Nat) (i c:Nat):Prop where
 le:c<=l.length
 lo:∀j,j<c->gt l j<i
 hi:∀j,c<=j->j<l.length->i<=gt l j
theorem pf.eq{l:List Nat}{i c q:Nat}(h:pf l i c)(hq:q<=l.length)(h1:∀j,j<q->gt l j<i)(h2:q<l.length->i<=gt l q):c=q:=by
 by_cases a:c<q
 .have:=h1 c a;have:=h.hi c (Nat.le_refl _) (by omega);omega
 .by_cases b:q<c
  .have:=h.lo q b;have:=h.le;have:=h2 (by omega);omega
  .omega
theorem FW(n mm kn vn hh:Nat)(LM:Int)(ao:Option Addr)(xs:List Nat)(cap:Nat)(qo:Option Addr)(ys:List Nat)(dap:Nat)(l:List Nat)(w:World)(F:fE n mm kn vn LM xs hh ys)(hx:Wd w ao xs)(fx:Fit xs)(hy:Wd w qo ys)(fy:Fit ys)(hl:l.length=mm)(hg:∀q,q<mm->plq n mm xs hh ys q=gt l q)(hr:aR l n)(i:Nat)(hi:i<=1048576)(c:Nat)(hc:pf l i c):
  Qq 181 #[.agg #[.int .i64 (n:Nat),.int .i64 (mm:Nat),.int .i64 (kn:Nat),.int .i64 (vn:Nat),.int .i64 LM,.slice ao xs.length cap,.int .i64 (hh:Nat),.slice qo ys.length dap],.int .i64 i] w (.int .i64 c):=by
 refine(callsIn_wide (n:=0)).1 (callsIn_of_wp_marks func181 rfl trivial ?_)
 simp only[ntmps181,List.size_toArray,List.length_cons,List.length_nil,Nat.reduceAdd,Nat.reduceSub,Array.replicate_succ,Array.replicate_zero,List.push_toArray,List.append_toArray,List.nil_append,List.cons_append]
 refine wpIn_wide.2 ?_
 have PC:Hid (∀w0,Calls prog 202 #[.agg #[.int .i64 (n:Nat),.int .i64 (mm:Nat),.int .i64 (kn:Nat),.int .i64 (vn:Nat),.int .i64 LM,.slice ao xs.length cap,.int .i64 (hh:Nat),.slice qo ys.length dap]] w0 fun e w'=>e=.returned (.func (.func 257) #[] #[.pointer (some ⟨w0.heap.size,0,none⟩),.pointer (some ⟨w0.heap.size+1,0,none⟩)])/\aa w' w0.heap.size [.int .i64 (n:Nat),.int .i64 (mm:Nat),.int .i64 (kn:Nat),.int .i64 (vn:Nat),.int .i64 LM,.slice ao xs.length cap,.int .i64 (hh:Nat),.slice qo ys.length dap] 42/\aa w' (w0.heap.size+1) [.int .i64 (wdF n mm:Nat)] 3/\w'.heap.size=w0.heap.size+2/\Below w0.heap.size w0 w'):=fun w0=>kQ n mm kn vn hh LM ao xs cap qo ys dap F.hn F.hm w0
 obtain⟨W1,hW1⟩:∃W1,W1=((w.alloc (.cells #[.int .i64 (n:Nat),.int .i64 (mm:Nat),.int .i64 (kn:Nat),.int .i64 (vn:Nat),.int .i64 LM,.slice ao xs.length cap,.int .i64 (hh:Nat),.slice qo ys.length dap] 42)).alloc (.cells #[.int .i64 (i:Nat)] 3)).alloc (.cells #[.int .i64 0] 3):=⟨_,rfl⟩
 have z1:W1.heap.size=w.heap.size+3:=by rw[hW1];simp
 have b1:Below w.heap.size w W1:=by rw[hW1];exact(((below_alloc w _).alloc (by simp only[World.size_alloc];omega) _).alloc (by simp only[World.size_alloc];omega) _)
 have c0:aa W1 (w.heap.size+0) [.int .i64 (n:Nat),.int .i64 (mm:Nat),.int .i64 (kn:Nat),.int .i64 (vn:Nat),.int .i64 LM,.slice ao xs.length cap,.int .i64 (hh:Nat),.slice qo ys.length dap] 42:=by rw[hW1];exact((((aa.new _ _ _).alloc _).alloc _)).at (by simp)
 have c1:aa W1 (w.heap.size+1) [.int .i64 (i:Nat)] 3:=by rw[hW1];exact(((aa.new _ _ _).alloc _)).at (by simp)
 have c2:aa W1 (w.heap.size+2) [.int .i64 0] 3:=by rw[hW1];exact((aa.new _ _ _)).at (by simp)
 go_wp2_with fail;rw[<-hW1];clear hW1;refine(PC.out _).mono ?_;rintro e w' ⟨rfl,cx,cw,z2,b2⟩;rw[z1]at cx cw z2;rw[z1];have b3:Below w.heap.size w w':=bg b1 b2;replace c0:=c0.kept b2
 replace c1:=c1.kept b2;replace c2:=c2.kept b2;go_wp2;clear b1 b2 PC
 have G:=(kh n mm kn vn hh LM ao xs cap qo ys dap (fun b=>b≠w.heap.size+2/\b≠w'.heap.size+1) w' (w.heap.size+3) (w.heap.size+4) F (hx.keep b3) fx (hy.keep b3) fy cx cw (by omega) (by omega) (fun p hp h0=>by have:=hx.blk hp h0;omega) (fun p hp h0=>by have:=hy.blk hp h0;omega)).enc (enc':=fun q=>#[.int .i64 q,.int .i64 (gt l q:Nat)]) (fun q hq=>by rw[hg q hq])
 refine iC (gf:=257) (lb:=#[.pointer (some ⟨w.heap.size+3,0,none⟩),.pointer (some ⟨w.heap.size+4,0,none⟩)]) (K:=fun b=>b≠w.heap.size+2) rfl (enters_of func257 (by kernel_rfl) rfl) (fun _=>rfl) G (fun b hb=>by omega)
  (fun q Wc=>az (fun b=>b≠w.heap.size+2) w' Wc/\aa Wc (w.heap.size+2) [.int .i64 0] 3/\∀j,j<q->gt l j<i) (fun q Wc=>az (fun b=>b≠w.heap.size+2) w' Wc/\aa Wc (w.heap.size+2) [.int .i64 (c:Nat)] 3) (fun q A B h hb=>⟨h.1.more hb (Nat.le_refl _),h.2.1.keep hb (by omega),h.2.2⟩) (fun q A B h hb=>⟨h.1.more hb (Nat.le_refl _),h.2.keep hb (by omega)⟩) ⟨az.refl _ _,c2,fun j hj=>absurd hj (by omega)⟩
  (fun q=>{ tmps:=#[.agg #[.int .i64 (n:Nat),.int .i64 (mm:Nat),.int .i64 (kn:Nat),.int .i64 (vn:Nat),.int .i64 LM,.slice ao xs.length cap,.int .i64 (hh:Nat),.slice qo ys.length dap],.int .i64 (i:Nat),.pointer (some ⟨w.heap.size,0,none⟩),.pointer (some ⟨w.heap.size+1,0,none⟩),.pointer (some ⟨w.heap.size+2,0,none⟩),.int .i64 (q:Nat),.int .i64 (gt l q:Nat),.agg #[.int .i64 (n:Nat),.int .i64 (mm:Nat),.int .i64 (kn:Nat),.int .i64 (vn:Nat),.int .i64 LM,.slice ao xs.length cap,.int .i64 (hh:Nat),.slice qo ys.length dap],.func (.func 257) #[] #[.pointer (some ⟨w.heap.size+3,0,none⟩),.pointer (some ⟨w.heap.size+4,0,none⟩)],.int .i64 (q:Nat),.int .i64 (gt l q:Nat),undef,undef,undef,undef,undef,undef],defers:=[] }) ?assign ?body ?done ?stop
 case assign=>
  intro l1 q Wc K1 hK1;gi_wp2;exact hK1
 case body=>
  rintro l1 q Wc hq ⟨hk,cR,hlt⟩ hz;have cI:=(hk.cel c1 (by omega)).cell 0 rfl;have r0:=cR.cell 0 rfl;have r1:=cR.frozen 0;clear G;by_cases hge:i<=gt l q
  .have hge2:(i:Int)<=(gt l q:Int):=by omega
   obtain rfl:c=q:=hc.eq (by omega) hlt (fun _=>hge)
   have HX:Hid (az (fun b=>b≠w.heap.size+2) Wc (Wc.setCell ⟨w.heap.size+2,0,none⟩ (.int .i64 (c:Nat)))/\az (fun b=>b≠w.heap.size+2) w' (Wc.setCell ⟨w.heap.size+2,0,none⟩ (.int .i64 (c:Nat)))/\aa (Wc.setCell ⟨w.heap.size+2,0,none⟩ (.int .i64 (c:Nat))) (w.heap.size+2) [.int .i64 (c:Nat)] 3):=⟨(az.refl _ _).setCell (fun h=>h rfl) _,hk.setCell (fun h=>h rfl) _,cR.set 0 _⟩
   gi_wp2;exact HX.out
  .have hge2:¬(i:Int)<=(gt l q:Int):=by omega
   gi_wp2
   exact⟨az.refl _ _,hk,cR,fun j hj=>by
    by_cases e:j=q
    .subst e;omega
    .exact hlt j (by omega)⟩
 case done=>
  rintro D Wc hD ⟨hk,cR,hlt⟩ hd;have r0:=cR.cell 0 rfl;have r1:=cR.frozen 0;have hB:=aG ((hk.below (B:=w.heap.size) (fun x h=>by omega) (by omega)))
  have HE:=aG (hc.eq (q:=mm) (by omega) hlt (fun h=>absurd h (by omega)));have m1:=(hk.cel c0 (by omega)).cell 1 rfl;rw[Nat.add_zero]at m1
  have hb:=aG (hB.out.setCell (p:=⟨w.heap.size+2,0,none⟩) (show w.heap.size<=w.heap.size+2 by omega) (.int .i64 (mm:Nat)));have cS:=aG (cR.set 0 (.int .i64 (mm:Nat)))
  have hd2:=aG ((Below.heap_setCell Wc ⟨w.heap.size+2,0,none⟩ (.int .i64 (mm:Nat)) D (show D≠w.heap.size+2 by omega)).trans hd);clear hd hk;go_wp2
  have cR2:=(cS.out.put (.deferred none) (show w.heap.size+2≠D by omega)).cell 0 rfl
  exact fc hd2.out (v:=.int .i64 (mm:Nat)) (by simp[results,Tryz.results181,go_sem,cR2]) ⟨by rw[HE.out],b3.trans (hb.out.trans (du (by omega) _))⟩
 case stop=>
  rintro D q Wc hD hq ⟨hk,cR⟩ hd;go_wp2;have cR2:=(cR.put (.deferred none) (show w.heap.size+2≠D by omega)).cell 0 rfl
  exact fc hd (v:=.int .i64 (c:Nat)) (by simp[results,Tryz.results181,go_sem,cR2]) ⟨rfl,b3.trans ((hk.below (fun x h=>by omega) (by omega)).trans (du (by omega) _))⟩
structure lu (l:List Nat) (k c:Nat):Prop where
 le:c<=l.length
 lo:∀j,j<c->gt l j-j<=k
 hi:c<l.length->k<gt l c-c
theorem lu.eq{l:List Nat}{k c q:Nat}(h:lu l k c)(hq:q<=l.length)(h1:∀j,j<q->gt l j-j<=k)(h2:q<l.length->k<gt l q-q):c=q:=by
 by_cases a:c<q
 .have:=h1 c a;have:=h.hi (by omega);omega
 .by_cases b:q<c
  .have:=h.lo q b;have:=h.le;have:=h2 (by omega);omega
  .omega
theorem FT(n mm kn vn hh:Nat)(LM:Int)(ao:Option Addr)(xs:List Nat)(cap:Nat)(qo:Option Addr)(ys:List Nat)(dap:Nat)(l:List Nat)(w:World)(F:fE n mm kn vn LM xs hh ys)(hx:Wd w ao xs)(fx:Fit xs)(hy:Wd w qo ys)(fy:Fit ys)(hl:l.length=mm)(hg:∀q,q<mm->plq n mm xs hh ys q=gt l q)(hr:aR l n)(k:Nat)(hk0:k<mm):
  Qq 197 #[.agg #[.int .i64 (n:Nat),.int .i64 (mm:Nat),.int .i64 (kn:Nat),.int .i64 (vn:Nat),.int .i64 LM,.slice ao xs.length cap,.int .i64 (hh:Nat),.slice qo ys.length dap],.bool true,.int .i64 k] w (.int .i64 (gt l k:Nat)):=by
 have nl:=F.hn;have ml:=F.hm;refine(callsIn_wide (n:=0)).1 (callsIn_of_wp_marks func197 rfl trivial ?_)
 simp only[ntmps197,List.size_toArray,List.length_cons,List.length_nil,Nat.reduceAdd,Nat.reduceSub,Array.replicate_succ,Array.replicate_zero,List.push_toArray,List.append_toArray,List.nil_append,List.cons_append]
 refine wpIn_wide.2 ?_
 have PC:Hid (∀w0,Calls prog 202 #[.agg #[.int .i64 (n:Nat),.int .i64 (mm:Nat),.int .i64 (kn:Nat),.int .i64 (vn:Nat),.int .i64 LM,.slice ao xs.length cap,.int .i64 (hh:Nat),.slice qo ys.length dap]] w0 fun e w'=>e=.returned (.func (.func 257) #[] #[.pointer (some ⟨w0.heap.size,0,none⟩),.pointer (some ⟨w0.heap.size+1,0,none⟩)])/\aa w' w0.heap.size [.int .i64 (n:Nat),.int .i64 (mm:Nat),.int .i64 (kn:Nat),.int .i64 (vn:Nat),.int .i64 LM,.slice ao xs.length cap,.int .i64 (hh:Nat),.slice qo ys.length dap] 42/\aa w' (w0.heap.size+1) [.int .i64 (wdF n mm:Nat)] 3/\w'.heap.size=w0.heap.size+2/\Below w0.heap.size w0 w'):=fun w0=>kQ n mm kn vn hh LM ao xs cap qo ys dap F.hn F.hm w0
 obtain⟨W1,hW1⟩:∃W1,W1=(((w.alloc (.cells #[.int .i64 (n:Nat),.int .i64 (mm:Nat),.int .i64 (kn:Nat),.int .i64 (vn:Nat),.int .i64 LM,.slice ao xs.length cap,.int .i64 (hh:Nat),.slice qo ys.length dap] 42)).alloc (.cells #[.bool true] 4)).alloc (.cells #[.int .i64 (k:Nat)] 3)).alloc (.cells #[.int .i64 0] 3):=⟨_,rfl⟩
 have z1:W1.heap.size=w.heap.size+4:=by rw[hW1];simp
 have b1:Below w.heap.size w W1:=by rw[hW1];exact((((below_alloc w _).alloc (by simp only[World.size_alloc];omega) _).alloc (by simp only[World.size_alloc];omega) _).alloc (by simp only[World.size_alloc];omega) _)
 have c0:aa W1 (w.heap.size+0) [.int .i64 (n:Nat),.int .i64 (mm:Nat),.int .i64 (kn:Nat),.int .i64 (vn:Nat),.int .i64 LM,.slice ao xs.length cap,.int .i64 (hh:Nat),.slice qo ys.length dap] 42:=by rw[hW1];exact(((((aa.new _ _ _).alloc _).alloc _).alloc _)).at (by simp)
 have c1:aa W1 (w.heap.size+1) [.bool true] 4:=by rw[hW1];exact((((aa.new _ _ _).alloc _).alloc _)).at (by simp)
 have c2:aa W1 (w.heap.size+2) [.int .i64 (k:Nat)] 3:=by rw[hW1];exact(((aa.new _ _ _).alloc _)).at (by simp)
 have c3:aa W1 (w.heap.size+3) [.int .i64 0] 3:=by rw[hW1];exact((aa.new _ _ _)).at (by simp)
 go_wp2_with fail;rw[<-hW1];clear hW1;refine(PC.out _).mono ?_;rintro e w' ⟨rfl,cx,cw,z2,b2⟩;rw[z1]at cx cw z2;rw[z1];have b3:Below w.heap.size w w':=bg b1 b2;replace c0:=c0.kept b2
 replace c1:=c1.kept b2;replace c2:=c2.kept b2;replace c3:=c3.kept b2;go_wp2;clear b1 b2 PC
 have G:=(kh n mm kn vn hh LM ao xs cap qo ys dap (fun b=>b≠w.heap.size+3/\b≠w'.heap.size+1) w' (w.heap.size+4) (w.heap.size+5) F (hx.keep b3) fx (hy.keep b3) fy cx cw (by omega) (by omega) (fun p hp h0=>by have:=hx.blk hp h0;omega) (fun p hp h0=>by have:=hy.blk hp h0;omega)).enc (enc':=fun q=>#[.int .i64 q,.int .i64 (gt l q:Nat)]) (fun q hq=>by rw[hg q hq])
 refine iC (gf:=257) (lb:=#[.pointer (some ⟨w.heap.size+4,0,none⟩),.pointer (some ⟨w.heap.size+5,0,none⟩)]) (K:=fun b=>b≠w.heap.size+3) rfl (enters_of func257 (by kernel_rfl) rfl) (fun _=>rfl) G (fun b hb=>by omega)
  (fun q Wc=>az (fun b=>b≠w.heap.size+3) w' Wc/\aa Wc (w.heap.size+3) [.int .i64 0] 3/\(q<=k)) (fun q Wc=>az (fun b=>b≠w.heap.size+3) w' Wc/\aa Wc (w.heap.size+3) [.int .i64 (gt l k:Nat)] 3) (fun q A B h hb=>⟨h.1.more hb (Nat.le_refl _),h.2.1.keep hb (by omega),h.2.2⟩) (fun q A B h hb=>⟨h.1.more hb (Nat.le_refl _),h.2.keep hb (by omega)⟩) ⟨az.refl _ _,c3,by omega⟩
  (fun q=>{ tmps:=#[.agg #[.int .i64 (n:Nat),.int .i64 (mm:Nat),.int .i64 (kn:Nat),.int .i64 (vn:Nat),.int .i64 LM,.slice ao xs.length cap,.int .i64 (hh:Nat),.slice qo ys.length dap],.bool true,.int .i64 (k:Nat),.pointer (some ⟨w.heap.size,0,none⟩),.pointer (some ⟨w.heap.size+1,0,none⟩),.pointer (some ⟨w.heap.size+2,0,none⟩),.pointer (some ⟨w.heap.size+3,0,none⟩),.int .i64 (q:Nat),.int .i64 (gt l q:Nat),.agg #[.int .i64 (n:Nat),.int .i64 (mm:Nat),.int .i64 (kn:Nat),.int .i64 (vn:Nat),.int .i64 LM,.slice ao xs.length cap,.int .i64 (hh:Nat),.slice qo ys.length dap],.func (.func 257) #[] #[.pointer (some ⟨w.heap.size+4,0,none⟩),.pointer (some ⟨w.heap.size+5,0,none⟩)],.int .i64 (q:Nat),.int .i64 (gt l q:Nat),undef,undef,undef,undef,undef,undef,undef,undef,undef,undef,undef,undef,undef,undef,undef,undef,undef,undef,undef,undef,undef,undef,undef],defers:=[] }) ?assign ?body ?done ?stop
 case assign=>
  intro l1 q Wc K1 hK1;gi_wp2;exact hK1
 case body=>
  rintro l1 q Wc hq ⟨hk,cR,hlt⟩ hz;have cI:=(hk.cel c1 (by omega)).cell 0 rfl;have cJ:=(hk.cel c2 (by omega)).cell 0 rfl;have r0:=cR.cell 0 rfl;have r1:=cR.frozen 0;clear G;by_cases hge:q=k
  .have hge2:((q:Int)==(k:Int))=true:=by simp;omega
   obtain rfl:=hge
   have HX:Hid (az (fun b=>b≠w.heap.size+3) Wc (Wc.setCell ⟨w.heap.size+3,0,none⟩ (.int .i64 (gt l q:Nat)))/\az (fun b=>b≠w.heap.size+3) w' (Wc.setCell ⟨w.heap.size+3,0,none⟩ (.int .i64 (gt l q:Nat)))/\aa (Wc.setCell ⟨w.heap.size+3,0,none⟩ (.int .i64 (gt l q:Nat))) (w.heap.size+3) [.int .i64 (gt l q:Nat)] 3):=⟨(az.refl _ _).setCell (fun h=>h rfl) _,hk.setCell (fun h=>h rfl) _,cR.set 0 _⟩
   gi_wp2;exact HX.out
  .have hge2:((q:Int)==(k:Int))=false:=by simp;omega
   gi_wp2;exact⟨az.refl _ _,hk,cR,by omega⟩
 case done=>
  rintro D Wc hD ⟨hk,cR,hlt⟩ hd;exact absurd hk0 (by omega)
 case stop=>
  rintro D q Wc hD hq ⟨hk,cR⟩ hd;go_wp2;have cR2:=(cR.put (.deferred none) (show w.heap.size+3≠D by omega)).cell 0 rfl
  exact fc hd (v:=.int .i64 (gt l k:Nat)) (by simp[results,Tryz.results197,go_sem,cR2]) ⟨rfl,b3.trans ((hk.below (fun x h=>by omega) (by omega)).trans (du (by omega) _))⟩
theorem FU(n mm kn vn hh:Nat)(LM:Int)(ao:Option Addr)(xs:List Nat)(cap:Nat)(qo:Option Addr)(ys:List Nat)(dap:Nat)(l:List Nat)(w:World)(F:fE n mm kn vn LM xs hh ys)(hx:Wd w ao xs)(fx:Fit xs)(hy:Wd w qo ys)(fy:Fit ys)(hl:l.length=mm)(hg:∀q,q<mm->plq n mm xs hh ys q=gt l q)(hr:aR l n)(k:Nat)(hkn:k<=1048576)(c:Nat)(hc:lu l k c):
  Qq 197 #[.agg #[.int .i64 (n:Nat),.int .i64 (mm:Nat),.int .i64 (kn:Nat),.int .i64 (vn:Nat),.int .i64 LM,.slice ao xs.length cap,.int .i64 (hh:Nat),.slice qo ys.length dap],.bool false,.int .i64 k] w (.int .i64 ((k+c:Nat):Int)):=by
 have nl:=F.hn;have ml:=F.hm;refine(callsIn_wide (n:=0)).1 (callsIn_of_wp_marks func197 rfl trivial ?_)
 simp only[ntmps197,List.size_toArray,List.length_cons,List.length_nil,Nat.reduceAdd,Nat.reduceSub,Array.replicate_succ,Array.replicate_zero,List.push_toArray,List.append_toArray,List.nil_append,List.cons_append]
 refine wpIn_wide.2 ?_
 have PC:Hid (∀w0,Calls prog 202 #[.agg #[.int .i64 (n:Nat),.int .i64 (mm:Nat),.int .i64 (kn:Nat),.int .i64 (vn:Nat),.int .i64 LM,.slice ao xs.length cap,.int .i64 (hh:Nat),.slice qo ys.length dap]] w0 fun e w'=>e=.returned (.func (.func 257) #[] #[.pointer (some ⟨w0.heap.size,0,none⟩),.pointer (some ⟨w0.heap.size+1,0,none⟩)])/\aa w' w0.heap.size [.int .i64 (n:Nat),.int .i64 (mm:Nat),.int .i64 (kn:Nat),.int .i64 (vn:Nat),.int .i64 LM,.slice ao xs.length cap,.int .i64 (hh:Nat),.slice qo ys.length dap] 42/\aa w' (w0.heap.size+1) [.int .i64 (wdF n mm:Nat)] 3/\w'.heap.size=w0.heap.size+2/\Below w0.heap.size w0 w'):=fun w0=>kQ n mm kn vn hh LM ao xs cap qo ys dap F.hn F.hm w0
 obtain⟨W1,hW1⟩:∃W1,W1=(((w.alloc (.cells #[.int .i64 (n:Nat),.int .i64 (mm:Nat),.int .i64 (kn:Nat),.int .i64 (vn:Nat),.int .i64 LM,.slice ao xs.length cap,.int .i64 (hh:Nat),.slice qo ys.length dap] 42)).alloc (.cells #[.bool false] 4)).alloc (.cells #[.int .i64 (k:Nat)] 3)).alloc (.cells #[.int .i64 0] 3):=⟨_,rfl⟩
 have z1:W1.heap.size=w.heap.size+4:=by rw[hW1];simp
 have b1:Below w.heap.size w W1:=by rw[hW1];exact((((below_alloc w _).alloc (by simp only[World.size_alloc];omega) _).alloc (by simp only[World.size_alloc];omega) _).alloc (by simp only[World.size_alloc];omega) _)
 have c0:aa W1 (w.heap.size+0) [.int .i64 (n:Nat),.int .i64 (mm:Nat),.int .i64 (kn:Nat),.int .i64 (vn:Nat),.int .i64 LM,.slice ao xs.length cap,.int .i64 (hh:Nat),.slice qo ys.length dap] 42:=by rw[hW1];exact(((((aa.new _ _ _).alloc _).alloc _).alloc _)).at (by simp)
 have c1:aa W1 (w.heap.size+1) [.bool false] 4:=by rw[hW1];exact((((aa.new _ _ _).alloc _).alloc _)).at (by simp)
 have c2:aa W1 (w.heap.size+2) [.int .i64 (k:Nat)] 3:=by rw[hW1];exact(((aa.new _ _ _).alloc _)).at (by simp)
 have c3:aa W1 (w.heap.size+3) [.int .i64 0] 3:=by rw[hW1];exact((aa.new _ _ _)).at (by simp)
 go_wp2_with fail;rw[<-hW1];clear hW1;refine(PC.out _).mono ?_;rintro e w' ⟨rfl,cx,cw,z2,b2⟩;rw[z1]at cx cw z2;rw[z1];have b3:Below w.heap.size w w':=bg b1 b2;replace c0:=c0.kept b2
 replace c1:=c1.kept b2;replace c2:=c2.kept b2;replace c3:=c3.kept b2;go_wp2;clear b1 b2 PC
 have G:=(kh n mm kn vn hh LM ao xs cap qo ys dap (fun b=>b≠w.heap.size+3/\b≠w'.heap.size+1) w' (w.heap.size+4) (w.heap.size+5) F (hx.keep b3) fx (hy.keep b3) fy cx cw (by omega) (by omega) (fun p hp h0=>by have:=hx.blk hp h0;omega) (fun p hp h0=>by have:=hy.blk hp h0;omega)).enc (enc':=fun q=>#[.int .i64 q,.int .i64 (gt l q:Nat)]) (fun q hq=>by rw[hg q hq])
 refine iC (gf:=257) (lb:=#[.pointer (some ⟨w.heap.size+4,0,none⟩),.pointer (some ⟨w.heap.size+5,0,none⟩)]) (K:=fun b=>b≠w.heap.size+3) rfl (enters_of func257 (by kernel_rfl) rfl) (fun _=>rfl) G (fun b hb=>by omega)
  (fun q Wc=>az (fun b=>b≠w.heap.size+3) w' Wc/\aa Wc (w.heap.size+3) [.int .i64 0] 3/\(∀j,j<q->gt l j-j<=k)) (fun q Wc=>az (fun b=>b≠w.heap.size+3) w' Wc/\aa Wc (w.heap.size+3) [.int .i64 ((k+c:Nat):Int)] 3) (fun q A B h hb=>⟨h.1.more hb (Nat.le_refl _),h.2.1.keep hb (by omega),h.2.2⟩) (fun q A B h hb=>⟨h.1.more hb (Nat.le_refl _),h.2.keep hb (by omega)⟩) ⟨az.refl _ _,c3,fun j hj=>absurd hj (by omega)⟩
  (fun q=>{ tmps:=#[.agg #[.int .i64 (n:Nat),.int .i64 (mm:Nat),.int .i64 (kn:Nat),.int .i64 (vn:Nat),.int .i64 LM,.slice ao xs.length cap,.int .i64 (hh:Nat),.slice qo ys.length dap],.bool false,.int .i64 (k:Nat),.pointer (some ⟨w.heap.size,0,none⟩),.pointer (some ⟨w.heap.size+1,0,none⟩),.pointer (some ⟨w.heap.size+2,0,none⟩),.pointer (some ⟨w.heap.size+3,0,none⟩),.int .i64 (q:Nat),.int .i64 (gt l q:Nat),.agg #[.int .i64 (n:Nat),.int .i64 (mm:Nat),.int .i64 (kn:Nat),.int .i64 (vn:Nat),.int .i64 LM,.slice ao xs.length cap,.int .i64 (hh:Nat),.slice qo ys.length dap],.func (.func 257) #[] #[.pointer (some ⟨w.heap.size+4,0,none⟩),.pointer (some ⟨w.heap.size+5,0,none⟩)],.int .i64 (q:Nat),.int .i64 (gt l q:Nat),undef,undef,undef,undef,undef,undef,undef,undef,undef,undef,undef,undef,undef,undef,undef,undef,undef,undef,undef,undef,undef,undef,undef],defers:=[] }) ?assign ?body ?done ?stop
 case assign=>
  intro l1 q Wc K1 hK1;gi_wp2;exact hK1
 case body=>
  rintro l1 q Wc hq ⟨hk,cR,hlt⟩ hz;have cI:=(hk.cel c1 (by omega)).cell 0 rfl;have cJ:=(hk.cel c2 (by omega)).cell 0 rfl;have r0:=cR.cell 0 rfl;have r1:=cR.frozen 0;clear G;have hst:=hr.step q 0 (by omega)
  rw[Nat.zero_add]at hst;have hln:=hr.1 q (by omega);obtain⟨d,hd⟩:∃d,Hid (d=gt l q-q):=⟨_,rfl⟩;have hd2:(gt l q:Int)-(q:Int)=(d:Int):=by rw[hd.out];omega
  have dl:d<=1048576:=by rw[hd.out];omega
  by_cases hge:k<d
  .have hge2:(k:Int)<(d:Int):=by omega
   obtain rfl:c=q:=hc.eq (by omega) hlt (fun _=>by rw[<-hd.out];exact hge)
   have HX:Hid (az (fun b=>b≠w.heap.size+3) Wc (Wc.setCell ⟨w.heap.size+3,0,none⟩ (.int .i64 ((k+c:Nat):Int)))/\az (fun b=>b≠w.heap.size+3) w' (Wc.setCell ⟨w.heap.size+3,0,none⟩ (.int .i64 ((k+c:Nat):Int)))/\aa (Wc.setCell ⟨w.heap.size+3,0,none⟩ (.int .i64 ((k+c:Nat):Int))) (w.heap.size+3) [.int .i64 ((k+c:Nat):Int)] 3):=⟨(az.refl _ _).setCell (fun h=>h rfl) _,hk.setCell (fun h=>h rfl) _,cR.set 0 _⟩
   have c20:c<=1048576:=by omega
   rw[show((k+c:Nat):Int)=(k:Int)+(c:Int)by omega]at HX⊢;clear hst hln;gi_wp2;exact HX.out
  .have hge2:¬(k:Int)<(d:Int):=by omega
   have hlt2:Hid (∀j,j<q+1->gt l j-j<=k):=fun j hj=>by
    by_cases e:j=q
    .subst e;rw[<-hd.out];omega
    .exact hlt j (by omega)
   clear hst hln;gi_wp2;exact⟨az.refl _ _,hk,cR,fun j hj=>by have:=hlt2.out j hj;omega⟩
 case done=>
  rintro D Wc hD ⟨hk,cR,hlt⟩ hd;have r0:=cR.cell 0 rfl;have r1:=cR.frozen 0;have hB:=aG ((hk.below (B:=w.heap.size) (fun x h=>by omega) (by omega)))
  have HE:=aG (hc.eq (q:=mm) (by omega) hlt (fun h=>absurd h (by omega)));have m1:=(hk.cel c0 (by omega)).cell 1 rfl;rw[Nat.add_zero]at m1;have cJ:=(hk.cel c2 (by omega)).cell 0 rfl
  have m20:mm<=1048576:=by omega
  have hb:=aG (hB.out.setCell (p:=⟨w.heap.size+3,0,none⟩) (show w.heap.size<=w.heap.size+3 by omega) (.int .i64 ((k:Int)+(mm:Int))));have cS:=aG (cR.set 0 (.int .i64 ((k:Int)+(mm:Int))))
  have hd2:=aG ((Below.heap_setCell Wc ⟨w.heap.size+3,0,none⟩ (.int .i64 ((k:Int)+(mm:Int))) D (show D≠w.heap.size+3 by omega)).trans hd);clear hd hk;go_wp2
  have cR2:=(cS.out.put (.deferred none) (show w.heap.size+3≠D by omega)).cell 0 rfl
  exact fc hd2.out (v:=.int .i64 ((k:Int)+(mm:Int))) (by simp[results,Tryz.results197,go_sem,cR2]) ⟨by rw[HE.out];congr 1,b3.trans (hb.out.trans (du (by omega) _))⟩
 case stop=>
  rintro D q Wc hD hq ⟨hk,cR⟩ hd;go_wp2;have cR2:=(cR.put (.deferred none) (show w.heap.size+3≠D by omega)).cell 0 rfl
  exact fc hd (v:=.int .i64 ((k+c:Nat):Int)) (by simp[results,Tryz.results197,go_sem,cR2]) ⟨rfl,b3.trans ((hk.below (fun x h=>by omega) (by omega)).trans (du (by omega) _))⟩
end Go.Proofs.YtleegaihbgbcjaaGreatDoor
namespace Go.Proofs.YtleegaihbgbcjaaGreatDoor
open Go.RowKit Num Bit
def eG(w:World)(cs:List Value)(a:bm):Prop:=∃ao cap qo dap,cs=[.int .i64 a.N,.int .i64 a.M,.int .i64 a.k,.int .i64 a.V,.int .i64 a.LM,.slice ao a.xs.length cap,.int .i64 a.H,.slice qo a.ys.length dap]/\(ax a.N/\ax a.M/\ax a.k/\ax a.V/\ax a.LM/\ax a.H)/\Wd w ao a.xs/\Fit a.xs/\a.xs.length<=cap/\Wd w qo a.ys/\Fit a.ys/\a.ys.length<=dap
structure bK (w:World) (cs:List Value) (a:bm):Prop where
 arg:eG w cs a
 n3:a.N<=3000
 xl:a.xs.length<=1048576
 yl:a.ys.length<=1048576
theorem eG.keep{w w':World}{cs:List Value}{a:bm}(h:eG w cs a)(hb:Below w.heap.size w w'):eG w' cs a:=by
 obtain⟨ao,cap,qo,dap,e,r,a1,a2,a3,a4,a5,a6⟩:=h;exact⟨ao,cap,qo,dap,e,r,a1.keep hb,a2,a3,a4.keep hb,a5,a6⟩
theorem bK.keep{w w':World}{cs:List Value}{a:bm}(h:bK w cs a)(hb:Below w.heap.size w w'):bK w' cs a:=⟨h.arg.keep hb,h.n3,h.xl,h.yl⟩
theorem eG.len{w:World}{cs:List Value}{a:bm}(h:eG w cs a):(prog.info? 42).map (·.size)=some cs.length:=by
 obtain⟨ao,cap,qo,dap,rfl,_⟩:=h;kernel_rfl
theorem eG.nine{w:World}{cs:List Value}{a:bm}(h:eG w cs a):8=cs.length:=by
 obtain⟨ao,cap,qo,dap,rfl,_⟩:=h;rfl
theorem eG.one{w:World}{cs:List Value}{a:bm}(h:eG w cs a):cs.toArray.all (·.oneCell')=true:=by
 obtain⟨ao,cap,qo,dap,rfl,_⟩:=h;simp[Value.oneCell']
theorem EI(a:bm)(h:kOk9 a=true):0<=a.N/\a.N<=1048576/\aR (kRow a) a.N.toNat:=by
 obtain⟨h1,_⟩:=qx a h;unfold gL at h1;simp only at h1;split at h1
 .rename_i c;obtain⟨⟨c1,c2,c3,c4⟩,c5,c6,c7,c8⟩:=c;exact⟨c1,c2,(re _ _ _ _ _ _ h1).2⟩
 .cases h1
theorem oa(a:bm)(h:kOk9 a=true):ar (kBN9 a) (kBX9 a)=true:=by
 obtain⟨h0,h1,_⟩:=EI a h;unfold kBN9 kBX9;rw[if_pos h,if_pos h];have:=dO a.N.toNat (isIn (kRow a)) (by omega);rw[Int.toNat_of_nonneg h0]at this;exact this
theorem ua(xs:List Nat)(n:Nat):(plc (bitAt xs) n).length=cntB xs n:=by
 induction n with
 | zero=>rfl
 | succ n ih=>
  rw[lR,List.length_append,ih];show _=cntB xs n+(if bitAt xs n then 1 else 0);cases bitAt xs n<;>rfl
theorem oV(n:Nat)(l:List Nat)(hr:aR l n)(i:Nat):bitAt (rowOf n (isIn l)) i=isIn l i:=by
 rw[eF];by_cases c:i<n
 .rw[decide_eq_true c,Bool.true_and]
 .rw[decide_eq_false c,Bool.false_and];symm;refine Bool.eq_false_iff.2 fun h=>?_;obtain⟨j,hj,e⟩:=(fg l i).1 h;have:=hr.1 j hj;omega
theorem oG{n:Nat}{l:List Nat}(hr:aR l n)(i:Nat):pf l i (cntB (rowOf n (isIn l)) i):=by
 induction i with
 | zero=>exact⟨Nat.zero_le _,fun j hj=>absurd hj (by show ¬j<0;omega),fun j _ _=>Nat.zero_le _⟩
 | succ i ih=>
  have e:cntB (rowOf n (isIn l)) (i+1)=cntB (rowOf n (isIn l)) i+(if isIn l i then 1 else 0):=by
   show _+(if bitAt _ i then 1 else 0)=_;rw[oV n l hr]
  generalize cntB (rowOf n (isIn l)) i=c at *;rw[e];cases hb:isIn l i with
  | false=>
   simp only[Bool.false_eq_true,if_false,Nat.add_zero];refine⟨ih.le,fun j hj=>by have:=ih.lo j hj;omega,fun j hj hl=>?_⟩;have h1:=ih.hi j hj hl;refine Nat.lt_of_le_of_ne h1 fun e2=>?_
   rw[e2,oh l j hl]at hb;cases hb
  | true=>
   obtain⟨j,hj,ej⟩:=(fg l i).1 hb
   have jc:j=c:=by
    by_cases c1:j<c
    .have:=ih.lo j c1;omega
    .by_cases c2:c<j
     .have h1:=hr.lt c2 hj;have:=ih.hi c (Nat.le_refl _) (by omega);omega
     .omega
   subst jc;simp only[if_true];refine⟨by omega,fun t ht=>?_,fun t ht hl=>?_⟩
   .by_cases e3:t=j
    .subst e3;omega
    .have:=ih.lo t (by omega);omega
   .have:=hr.lt (show j<t by omega) hl;omega
theorem G9{n:Nat}{l:List Nat}(hr:aR l n)(k:Nat)(hk:k<l.length):bitAt (rowOf n (isIn l)) (gt l k)=true/\cntB (rowOf n (isIn l)) (gt l k)=k:=by
 refine⟨by rw[oV n l hr];exact oh l k hk,?_⟩;exact(oG hr (gt l k)).eq (by omega) (fun j hj=>hr.lt hj hk) (fun _=>Nat.le_refl _)
theorem G_{n:Nat}{l:List Nat}(hr:aR l n):cntB (rowOf n (isIn l)) n=l.length:=
 (oG hr n).eq (Nat.le_refl _) (fun j hj=>hr.1 j hj) (fun h=>absurd h (by omega))
theorem G7{n:Nat}{l:List Nat}(hr:aR l n)(k:Nat)(hk:k<n-l.length):∃c,lu l k c/\k+c<n/\bitAt (rowOf n (isIn l)) (k+c)=false/\(k+c)-cntB (rowOf n (isIn l)) (k+c)=k:=by
 have hlen:=hr.len;-- the first place that has more than k noughts ahead
 have ex:∀d,d<=l.length->(∃c,lu l k c)\/(∀j,j<d->gt l j-j<=k):=by
  intro d;induction d with
  | zero=>intro _;exact .inr fun j hj=>absurd hj (by omega)
  | succ d ih=>
   intro hd;rcases ih (by omega)with h | h
   .exact .inl h
   .by_cases c:k<gt l d-d
    .exact .inl ⟨d,by omega,h,fun _=>c⟩
    .exact .inr fun j hj=>by
      by_cases e:j=d
      .subst e;omega
      .exact h j (by omega)
 have hc:∃c,lu l k c:=by
  rcases ex l.length (Nat.le_refl _)with h | h
  .exact h
  .exact⟨l.length,Nat.le_refl _,h,fun h=>absurd h (by omega)⟩
 obtain⟨c,hc⟩:=hc
 have hst:∀j,j<l.length->j<=gt l j:=fun j hj=>by
  have:=hr.step j 0 (by omega);rw[Nat.zero_add]at this;omega
 have h1:∀j,j<c->gt l j<k+c:=fun j hj=>by
  have:=hc.lo j hj;have:=hc.le;have:=hst j (by omega);omega
 have h2:c<l.length->k+c<gt l c:=fun h=>by
  have:=hc.hi h;have:=hst c h;omega
 have hn:k+c<n:=by
  by_cases e:c<l.length
  .have:=h2 e;have:=hr.1 c e;omega
  .have:=hc.le;omega
 have hcnt:cntB (rowOf n (isIn l)) (k+c)=c:=(oG hr (k+c)).eq hc.le h1 (fun h=>Nat.le_of_lt (h2 h));refine⟨c,hc,hn,?_,by omega⟩;rw[oV n l hr];refine Bool.eq_false_iff.2 fun h=>?_
 obtain⟨j,hj,e⟩:=(fg l _).1 h;by_cases a:j<c
 .have:=h1 j a;omega
 .by_cases b:j=c
  .subst b;have:=h2 hj;omega
  .have:=hr.lt (show c<j by omega) hj;have:=h2 (by omega);omega
def rN(w:World)(b:Nat)(l:List (Int×Nat)):Prop:=b<w.heap.size/\∀i,i<l.length->w.cell? ⟨b,i*2,none⟩=some (.int .i64 (l.getD i (0,0)).1)/\∃ao cap,w.cell? ⟨b,i*2+1,none⟩=some (.slice ao (l.getD i (0,0)).2 cap)
def dK(l:List (Int×Nat)):Bool:=l.all fun p=>decide (p.1=0)&&decide ((p.2:Int)=0)
theorem C_(l:List (Int×Nat))(h:∀j,j<l.length->(l.getD j (0,0)).1=0/\(l.getD j (0,0)).2=0):dK l=true:=by
 unfold dK;rw[List.all_eq_true];intro p hp;obtain⟨j,hj,rfl⟩:=List.mem_iff_getElem.1 hp;have:=h j hj;rw[List.getD_eq_getElem?_getD,List.getElem?_eq_getElem hj]at this
 simp[show(l[j]).1=0 from this.1,show(l[j]).2=0 from this.2]
theorem us(l:List (Int×Nat))(j:Nat)(hj:j<l.length)(h:(l.getD j (0,0)).1≠0\/(l.getD j (0,0)).2≠0):dK l=false:=by
 refine Bool.eq_false_iff.2 fun e=>?_;unfold dK at e;rw[List.all_eq_true]at e;have:=e _ (List.getElem_mem hj);rw[List.getD_eq_getElem?_getD,List.getElem?_eq_getElem hj]at h;simp at this;rcases h with h | h
 .exact h this.1
 .exact h (by have:=this.2;simp only[Option.getD_some]at *;omega)
theorem qb(b cap:Nat)(l:List (Int×Nat))(w:World)(hx:rN w b l)(hl:l.length<=2):
  Qq 238 #[.slice (some ⟨b,0,none⟩) l.length cap] w (.bool (dK l)):=by
 obtain⟨R,hR⟩:∃R,Hid (R=dK l):=⟨_,rfl⟩;rw[<-hR.out];go_enter func238,ntmps238;go_wp2
 go_loopw [7] (fun i wr=>∃k:Nat,k<=l.length/\i=.int .i64 k/\Hid (∀j,j<k->(l.getD j (0,0)).1=0/\(l.getD j (0,0)).2=0)/\Below w.heap.size w wr) (fun i _=>l.length-(intOf i).toNat)
 case atStart=>exact⟨0,by omega,rfl,fun j hj=>absurd hj (by omega),Below.refl _ _⟩
 case round=>
  obtain⟨k,hk,rfl,H,hw⟩:=hrel;by_cases hlt:k<l.length
  .obtain⟨h1,ao,cp,h2⟩:=hx.2 k hlt;have e1:=(hw.cell (p:=⟨b,k*2,none⟩) hx.1).trans h1;have e2:=(hw.cell (p:=⟨b,k*2+1,none⟩) hx.1).trans h2;obtain⟨N,hN⟩:∃N,N=(l.getD k (0,0)).1:=⟨_,rfl⟩
   obtain⟨n,hn⟩:∃n,n=(l.getD k (0,0)).2:=⟨_,rfl⟩;rw[<-hN]at e1;rw[<-hn]at e2;have hlt3:(k:Int)<(l.length:Int):=by omega
   have HN:Hid (N=(l.getD k (0,0)).1/\n=(l.getD k (0,0)).2):=And.intro hN hn;clear hN hn h1 h2;have bA:=hw.alloc hw.size (.cells #[.int .i64 N,.slice ao n cp] 33);by_cases hv:N=0
   .by_cases hv2:n=0
    .subst hv hv2;go_wp2;refine⟨⟨k+1,by omega,by go_num,?_,bA⟩,by simp only[intOf];omega⟩;intro j hj;by_cases e:j=k
     .subst e;exact⟨HN.out.1.symm,HN.out.2.symm⟩
     .exact H.out j (by omega)
    .have hne:((n:Int) != 0)=true:=by simp;omega
     have E:Hid (R=false):=by
      show R=false;rw[hR.out];exact us l k hlt (.inr (by rw[<-HN.out.2];exact hv2))
     subst hv;go_wp2;go_ret;rw[E.out];exact⟨rfl,bA⟩
   .have hne:(N != 0)=true:=by simp[hv]
    have E:Hid (R=false):=by
     show R=false;rw[hR.out];exact us l k hlt (.inl (by rw[<-HN.out.1];exact hv))
    go_wp2;go_ret;rw[E.out];exact⟨rfl,bA⟩
  .have E:Hid (R=true):=by
    show R=true;rw[hR.out];exact C_ l (fun j hj=>H.out j (by omega))
   go_wp2;go_ret;rw[E.out];exact⟨rfl,hw⟩
structure bN where
 N:Int
 xs:List Nat
 S:List Int
 T:List Int
def eH(w:World)(cs:List Value)(a:bN):Prop:=∃ao cap so sc tO tc,cs=[.int .i64 a.N,.slice ao a.xs.length cap,.slice so a.S.length sc,.slice tO a.T.length tc]/\rP w a.N ao a.xs cap so a.S sc tO a.T tc
structure b9 (w:World) (cs:List Value) (a:bN):Prop where
 arg:eH w cs a
 xl:a.xs.length<=1048576
 sl:a.S.length<=1048576
 tl:a.T.length<=1048576
theorem eH.keep{w w':World}{cs:List Value}{a:bN}(h:eH w cs a)(hb:Below w.heap.size w w'):eH w' cs a:=by
 obtain⟨ao,cap,so,sc,tO,tc,e,h⟩:=h;exact⟨ao,cap,so,sc,tO,tc,e,⟨h.n,h.x.keep hb,h.f,h.c,h.s.keep hb,h.sf,h.sc,h.t.keep hb,h.tf,h.tc⟩⟩
theorem b9.keep{w w':World}{cs:List Value}{a:bN}(h:b9 w cs a)(hb:Below w.heap.size w w'):b9 w' cs a:=⟨h.arg.keep hb,h.xl,h.sl,h.tl⟩
theorem eH.len{w:World}{cs:List Value}{a:bN}(h:eH w cs a):(prog.info? 36).map (·.size)=some cs.length:=by
 obtain⟨ao,cap,so,sc,tO,tc,rfl,_⟩:=h;kernel_rfl
theorem eH.four{w:World}{cs:List Value}{a:bN}(h:eH w cs a):cs.length=4:=by
 obtain⟨ao,cap,so,sc,tO,tc,rfl,_⟩:=h;rfl
theorem eH.one{w:World}{cs:List Value}{a:bN}(h:eH w cs a):cs.toArray.all (·.oneCell')=true:=by
 obtain⟨ao,cap,so,sc,tO,tc,rfl,_⟩:=h;simp[Value.oneCell']
def kOk7(a:bN):Bool:=pchk a.N a.xs a.S a.T
def kBN7(a:bN):Int:=dn a.N a.xs a.S a.T
def kBX7(a:bN):List Nat:=dA a.N a.xs a.S a.T
def kZ7(a:bN):Int:=pQ a.N a.xs a.S a.T
def kB7(N:Int)(xs:List Nat):bN:=⟨iE N xs,e_ N xs,fb N xs,fa N xs⟩
def kE7(N:Int)(xs:List Nat):Int:=nz N xs
theorem EL(N:Int)(xs:List Nat)(hk:ar N xs=true):kOk7 (kB7 N xs)=true/\kBN7 (kB7 N xs)=N/\kBX7 (kB7 N xs)=xs:=by
 have e:kB7 N xs=⟨N,xs,supL N xs,subL N xs⟩:=by unfold kB7 iE e_ fb fa;rw[if_pos hk,if_pos hk,if_pos hk,if_pos hk]
 have k:pchk N xs (supL N xs) (subL N xs)=true:=by unfold pchk;simp[hk]
 rw[e];unfold kOk7 kBN7 kBX7 dn dA;simp only;rw[if_pos k,if_pos k];exact⟨k,rfl,rfl⟩
theorem EO(a:bN)(h:kOk7 a=true):ar (kBN7 a) (kBX7 a)=true:=by
 unfold kBN7 kBX7 dn dA;unfold kOk7 at h;rw[if_pos h,if_pos h];unfold pchk at h;simp only[Bool.and_eq_true]at h;exact h.1
structure RA where
 K:Int
 p:bN
 r:aE
 f:bm
def eU(w:World)(cs:List Value)(a:RA):Prop:=∃cp cr cf,cs=.int .i64 a.K::(cp++(cr++cf))/\ax a.K/\eH w cp a.p/\dU w cr a.r/\eG w cf a.f
structure Sm (a:RA):Prop where
 p1:a.p.xs.length<=1048576
 p2:a.p.S.length<=1048576
 p3:a.p.T.length<=1048576
 r1:a.r.xs.length<=1048576
 r2:a.r.ys.length<=1048576
 r3:a.r.S.length<=1048576
 r4:a.r.T.length<=1048576
 f0:a.f.N<=3000
 f1:a.f.xs.length<=1048576
 f2:a.f.ys.length<=1048576
structure KI (w:World) (cs:List Value) (a:RA):Prop where
 arg:eU w cs a
 sm:Sm a
 gv:GV w
theorem eU.keep{w w':World}{cs:List Value}{a:RA}(h:eU w cs a)(hb:Below w.heap.size w w'):eU w' cs a:=by
 obtain⟨cp,cr,cf,e,k,h1,h2,h3⟩:=h;exact⟨cp,cr,cf,e,k,h1.keep hb,h2.keep hb,h3.keep hb⟩
theorem KI.keep{w w':World}{cs:List Value}{a:RA}(h:KI w cs a)(hb:Below w.heap.size w w'):KI w' cs a:=⟨h.arg.keep hb,h.sm,h.gv.keep hb⟩
theorem eU.nine{w:World}{cs:List Value}{a:RA}(h:eU w cs a):22=cs.length:=by
 obtain⟨cp,cr,cf,rfl,_,h1,h2,h3⟩:=h;have:=h1.four;have:=h2.nine;have:=h3.nine;simp only[List.length_cons,List.length_append];omega
theorem qD:(prog.info? 44).map (·.size)=some 22:=by kernel_rfl
theorem eU.len{w:World}{cs:List Value}{a:RA}(h:eU w cs a):(prog.info? 44).map (·.size)=some cs.length:=by
 rw[<-h.nine];exact qD
theorem eU.one{w:World}{cs:List Value}{a:RA}(h:eU w cs a):cs.toArray.all (·.oneCell')=true:=by
 obtain⟨cp,cr,cf,rfl,_,h1,h2,h3⟩:=h;have a1:=h1.one;have a2:=h2.one;have a3:=h3.one;simp only[List.all_toArray]at a1 a2 a3⊢;rw[List.all_cons,List.all_append,List.all_append,a1,a2,a3];rfl
def z7(a:bN):Bool:=dK [(a.N,a.xs.length)]&&(decide ((a.S.length:Int)=0)&&decide ((a.T.length:Int)=0))
def z8(a:aE):Bool:=decide (a.N=0)&&(decide (a.k=0)&&(decide (a.V=0)&&(dK [(a.M,a.xs.length),(a.L,a.ys.length)]&&(decide ((a.S.length:Int)=0)&&decide ((a.T.length:Int)=0)))))
def z9(a:bm):Bool:=decide (a.N=0)&&(decide (a.M=0)&&(decide (a.k=0)&&(decide (a.V=0)&&dK [(a.LM,a.xs.length),(a.H,a.ys.length)])))
def da(a:RA):Bool:=(decide (a.K=1)||z7 a.p)&&((decide (a.K=2)||z8 a.r)&&(decide (a.K=3)||z9 a.f))
def kOn(a:RA):Int:=if da a=true then a.K else 0
def aJ(a:RA):Bool:=if kOn a=1 then kOk7 a.p else if kOn a=2 then kOk8 a.r else if kOn a=3 then kOk9 a.f else false
def kBN(a:RA):Int:=if kOn a=1 then kBN7 a.p else if kOn a=2 then kBN8 a.r else if kOn a=3 then kBN9 a.f else 0
def aQ(a:RA):List Nat:=if kOn a=1 then kBX7 a.p else if kOn a=2 then kBX8 a.r else if kOn a=3 then kBX9 a.f else []
def kZ(a:RA):Int:=if kOn a=1 then kZ7 a.p else if kOn a=2 then kZ8 a.r else if kOn a=3 then kZ9 a.f else 0
def n7:bN:=⟨0,[],[],[]⟩
def n8:aE:=⟨0,0,0,0,[],0,[],[],[]⟩
def n9:bm:=⟨0,0,0,0,0,[],0,[]⟩
def kE(k:Int)(N:Int)(xs:List Nat):Int:=if k=1 then kE7 N xs else if k=2 then kE8 N xs else if k=3 then kE9 N xs else 5
def kB(k:Int)(N:Int)(xs:List Nat):RA:=if kE k N xs=0 then ⟨k,if k=1 then kB7 N xs else n7,if k=2 then kB8 N xs else n8,if k=3 then kB9 N xs else n9⟩else ⟨0,n7,n8,n9⟩
theorem jf{a:RA}(h:kOn a=1):aJ a=kOk7 a.p/\kBN a=kBN7 a.p/\aQ a=kBX7 a.p/\kZ a=kZ7 a.p:=by
 unfold aJ kBN aQ kZ;rw[if_pos h,if_pos h,if_pos h,if_pos h];exact⟨rfl,rfl,rfl,rfl⟩
theorem gX{a:RA}(h:kOn a=2):aJ a=kOk8 a.r/\kBN a=kBN8 a.r/\aQ a=kBX8 a.r/\kZ a=kZ8 a.r:=by
 unfold aJ kBN aQ kZ;have e:¬kOn a=1:=by omega
 rw[if_neg e,if_neg e,if_neg e,if_neg e,if_pos h,if_pos h,if_pos h,if_pos h];exact⟨rfl,rfl,rfl,rfl⟩
theorem jh{a:RA}(h:kOn a=3):aJ a=kOk9 a.f/\kBN a=kBN9 a.f/\aQ a=kBX9 a.f/\kZ a=kZ9 a.f:=by
 unfold aJ kBN aQ kZ;have e:¬kOn a=1:=by omega
 have e2:¬kOn a=2:=by omega
 rw[if_neg e,if_neg e,if_neg e,if_neg e,if_neg e2,if_neg e2,if_neg e2,if_neg e2,if_pos h,if_pos h,if_pos h,if_pos h];exact⟨rfl,rfl,rfl,rfl⟩
theorem jg{a:RA}(h1:kOn a≠1)(h2:kOn a≠2)(h3:kOn a≠3):aJ a=false/\kBN a=0/\aQ a=[]/\kZ a=0:=by
 unfold aJ kBN aQ kZ;rw[if_neg h1,if_neg h1,if_neg h1,if_neg h1,if_neg h2,if_neg h2,if_neg h2,if_neg h2,if_neg h3,if_neg h3,if_neg h3,if_neg h3];exact⟨rfl,rfl,rfl,rfl⟩
theorem kK(a:RA)(h:aJ a=true):ar (kBN a) (aQ a)=true:=by
 by_cases h1:kOn a=1
 .obtain⟨e1,e2,e3,_⟩:=jf h1;rw[e2,e3];exact EO _ (e1.symm.trans h)
 by_cases h2:kOn a=2
 .obtain⟨e1,e2,e3,_⟩:=gX h2;rw[e2,e3];exact vq _ (e1.symm.trans h)
 by_cases h3:kOn a=3
 .obtain⟨e1,e2,e3,_⟩:=jh h3;rw[e2,e3];exact oa _ (e1.symm.trans h)
 rw[(jg h1 h2 h3).1]at h;cases h
theorem nY(k N:Int)(xs:List Nat)(h1:1<=k)(h3:k<=3)(hk:ar N xs=true):kE k N xs=0:=by
 unfold kE kE7 kE8 kE9 nz na;simp only[hk];split
 .rfl
 .split
  .rfl
  .split
   .rfl
   .omega
theorem aN{ops:Array Oper}{rest:List Oper}{d:Option Tmp}{ty T:TypeId}{ps:String}{af:Array Edge}{gd:Option (Nat×Bool)}{a:Act}{w:World}{Q:Exit->Act->World->Prop}{x:Operand}
  (g o:Nat) (cs:List Value) {fs:Array Field} (hwn:Region.wanted (⟨d,.load T x,ty,ps,af,gd⟩:Oper) (yielded ops a.tmps)=true) (hx:a.eval x=.pointer (some ⟨g,o,none⟩)) (hc:w.rangeAt g o cs) (hu:prog.underlying T=some (.struct fs)) (hi:(prog.info? T).map (·.size)=some cs.length)
  (h:wpList prog ops Q rest (a.put d (.agg cs.toArray)) w):
  wpList prog ops Q (⟨d,.load T x,ty,ps,af,gd⟩::rest) a w:=
 wpList_step fun K hK=>by
  rw[if_pos hwn];exact wp_load_mid T x rfl g o hx cs _ hc hu rfl hi (hK _ _ h)
theorem aa.part{w:World}{b:Nat}{T:TypeId}(pre cs post:List Value)(h:aa w b (pre++(cs++post)) T):w.rangeAt b pre.length cs:=fun j v hv=>by
 refine h.cell (pre.length+j) ?_;have hj:j<cs.length:=(List.getElem?_eq_some_iff.1 hv).1;rw[List.getElem?_append_right (by omega),List.getElem?_append_left (by omega),show pre.length+j-pre.length=j by omega]
 exact hv
theorem Au(w:World)(N:Int)(ao:Option Addr)(n cap:Nat)(T:TypeId):rN (w.alloc (.cells #[.int .i64 N,.slice ao n cap] T)) w.heap.size [(N,n)]:=by
 have hc:=aa.new w [.int .i64 N,.slice ao n cap] T;refine⟨hc.lt,fun i hi=>?_⟩;have hi:i<1:=hi;obtain rfl:i=0:=by omega
 exact⟨hc.cell 0 rfl,ao,cap,hc.cell 1 rfl⟩
theorem tw(w:World)(N:Int)(ao:Option Addr)(n cap:Nat)(M:Int)(bo:Option Addr)(m dap:Nat)(T:TypeId):rN (w.alloc (.cells #[.int .i64 N,.slice ao n cap,.int .i64 M,.slice bo m dap] T)) w.heap.size [(N,n),(M,m)]:=by
 have hc:=aa.new w [.int .i64 N,.slice ao n cap,.int .i64 M,.slice bo m dap] T;refine⟨hc.lt,fun i hi=>?_⟩;have hi:i<2:=hi;have:i=0\/i=1:=by omega
 rcases this with rfl | rfl
 .exact⟨hc.cell 0 rfl,ao,cap,hc.cell 1 rfl⟩
 .exact⟨hc.cell 2 rfl,bo,dap,hc.cell 3 rfl⟩
theorem Dd(cs:List Value)(a:bN)(w:World)(h:eH w cs a):
  Qq 169 #[.agg cs.toArray] w (.bool (z7 a)):=by
 obtain⟨ao,cap,so,sc,tO,tc,rfl, -⟩:=h;obtain⟨N,xs,S,T⟩:=a;dsimp only;obtain⟨Z,hZ⟩:∃Z,Hid (Z=z7 ⟨N,xs,S,T⟩):=⟨_,rfl⟩;rw[<-hZ.out]
 obtain⟨W,hW⟩:∃W,W=(w.alloc (.cells #[.int .i64 N,.slice ao xs.length cap,.slice so S.length sc,.slice tO T.length tc] 36)).alloc (.cells #[.int .i64 N,.slice ao xs.length cap] 33):=⟨_,rfl⟩;have bW:=cW hW
 have R:Hid (∀w0:World,w0=W->Qq 238 #[.slice (some ⟨w.heap.size+1,0,none⟩) 1 1] w0 (.bool (dK [(N,xs.length)]))):=fun w0 g=>by
  subst g;refine qb _ 1 [(N,xs.length)] w0 ?_ (by simp);have hx:=Au (w.alloc (.cells #[.int .i64 N,.slice ao xs.length cap,.slice so S.length sc,.slice tO T.length tc] 36)) N ao xs.length cap 33
  rw[show(w.alloc (.cells #[.int .i64 N,.slice ao xs.length cap,.slice so S.length sc,.slice tO T.length tc] 36)).heap.size=w.heap.size+1 by simp]at hx;rw[hW];exact hx
 subst hW;cases hn:dK [(N,xs.length)]with
 | false=>
  have E:Hid (Z=false):=by
   show Z=_;rw[hZ.out];unfold z7;simp[hn]
  clear hZ;rw[hn]at R;go_enter func169,ntmps169;go_wp2_with fail;refine mr (R.out _ (by rfl)) fun w1 hb=>?_
  have g0:=((aa.new w [.int .i64 N,.slice ao xs.length cap,.slice so S.length sc,.slice tO T.length tc] 36).kept (below_alloc _ _)).kept hb;have g1:=g0.cell 2 rfl;have g2:=g0.cell 3 rfl;clear g0
  replace hb:=bg bW hb;go_wp2;go_ret;rw[E.out];exact⟨rfl,hb⟩
 | true=>
  by_cases qS:(S.length:Int)=0;rotate_left
  .have dS:((S.length:Int)==0)=false:=beq_eq_false_iff_ne.2 qS
   have E:Hid (Z=false):=by
    show Z=_;rw[hZ.out];unfold z7;simp[hn,show ¬S=[]from fun e=>qS (by rw[e];rfl)]
   clear hZ;rw[hn]at R;go_enter func169,ntmps169;go_wp2_with fail;refine mr (R.out _ (by rfl)) fun w1 hb=>?_
   have g0:=((aa.new w [.int .i64 N,.slice ao xs.length cap,.slice so S.length sc,.slice tO T.length tc] 36).kept (below_alloc _ _)).kept hb;have g1:=g0.cell 2 rfl;have g2:=g0.cell 3 rfl;clear g0
   replace hb:=bg bW hb;go_wp2;go_ret;rw[E.out];exact⟨rfl,hb⟩
  have dS:((S.length:Int)==0)=true:=by simp only[qS];rfl
  by_cases qT:(T.length:Int)=0;rotate_left
  .have dT:((T.length:Int)==0)=false:=beq_eq_false_iff_ne.2 qT
   have E:Hid (Z=false):=by
    show Z=_;rw[hZ.out];unfold z7;simp[hn,show S=[]from List.eq_nil_of_length_eq_zero (by omega),show ¬T=[]from fun e=>qT (by rw[e];rfl)]
   clear hZ;rw[hn]at R;go_enter func169,ntmps169;go_wp2_with fail;refine mr (R.out _ (by rfl)) fun w1 hb=>?_
   have g0:=((aa.new w [.int .i64 N,.slice ao xs.length cap,.slice so S.length sc,.slice tO T.length tc] 36).kept (below_alloc _ _)).kept hb;have g1:=g0.cell 2 rfl;have g2:=g0.cell 3 rfl;clear g0
   replace hb:=bg bW hb;go_wp2;go_ret;rw[E.out];exact⟨rfl,hb⟩
  have dT:((T.length:Int)==0)=true:=by simp only[qT];rfl
  have E:Hid (Z=true):=by
   show Z=_;rw[hZ.out];unfold z7;simp[hn,show S=[]from List.eq_nil_of_length_eq_zero (by omega),show T=[]from List.eq_nil_of_length_eq_zero (by omega)]
  clear hZ;rw[hn]at R;go_enter func169,ntmps169;go_wp2_with fail;refine mr (R.out _ (by rfl)) fun w1 hb=>?_
  have g0:=((aa.new w [.int .i64 N,.slice ao xs.length cap,.slice so S.length sc,.slice tO T.length tc] 36).kept (below_alloc _ _)).kept hb;have g1:=g0.cell 2 rfl;have g2:=g0.cell 3 rfl;clear g0
  replace hb:=bg bW hb;go_wp2;go_ret;rw[E.out];exact⟨rfl,hb⟩
theorem Dc(cs:List Value)(a:aE)(w:World)(h:dU w cs a):
  Qq 170 #[.agg cs.toArray] w (.bool (z8 a)):=by
 obtain⟨ao,cap,qo,dap,so,sc,tO,tc,rfl, -⟩:=h;obtain⟨N,k,V,M,xs,L,ys,S,T⟩:=a;dsimp only;obtain⟨Z,hZ⟩:∃Z,Hid (Z=z8 ⟨N,k,V,M,xs,L,ys,S,T⟩):=⟨_,rfl⟩;rw[<-hZ.out];by_cases qN:N=0
 rotate_left
 .have dN:(N==0)=false:=by simp[qN]
  have E:Hid (Z=false):=by
   show Z=_;rw[hZ.out];unfold z8;simp[qN]
  clear hZ;go_enter func170,ntmps170;go_wp2;go_ret;rw[E.out];exact⟨rfl,below_alloc _ _⟩
 subst qN;by_cases qk:k=0;rotate_left
 .have dk:(k==0)=false:=by simp[qk]
  have E:Hid (Z=false):=by
   show Z=_;rw[hZ.out];unfold z8;simp[qk]
  clear hZ;go_enter func170,ntmps170;go_wp2;go_ret;rw[E.out];exact⟨rfl,below_alloc _ _⟩
 subst qk;by_cases qV:V=0;rotate_left
 .have dV:(V==0)=false:=by simp[qV]
  have E:Hid (Z=false):=by
   show Z=_;rw[hZ.out];unfold z8;simp[qV]
  clear hZ;go_enter func170,ntmps170;go_wp2;go_ret;rw[E.out];exact⟨rfl,below_alloc _ _⟩
 subst qV
 obtain⟨W,hW⟩:∃W,W=(w.alloc (.cells #[.int .i64 0,.int .i64 0,.int .i64 0,.int .i64 M,.slice ao xs.length cap,.int .i64 L,.slice qo ys.length dap,.slice so S.length sc,.slice tO T.length tc] 40)).alloc (.cells #[.int .i64 M,.slice ao xs.length cap,.int .i64 L,.slice qo ys.length dap] 33):=⟨_,rfl⟩
 have bW:=cW hW
 have R:Hid (∀w0:World,w0=W->Qq 238 #[.slice (some ⟨w.heap.size+1,0,none⟩) 2 2] w0 (.bool (dK [(M,xs.length),(L,ys.length)]))):=fun w0 g=>by
  subst g;refine qb _ 2 [(M,xs.length),(L,ys.length)] w0 ?_ (by simp)
  have hx:=tw (w.alloc (.cells #[.int .i64 0,.int .i64 0,.int .i64 0,.int .i64 M,.slice ao xs.length cap,.int .i64 L,.slice qo ys.length dap,.slice so S.length sc,.slice tO T.length tc] 40)) M ao xs.length cap L qo ys.length dap 33
  rw[show(w.alloc (.cells #[.int .i64 0,.int .i64 0,.int .i64 0,.int .i64 M,.slice ao xs.length cap,.int .i64 L,.slice qo ys.length dap,.slice so S.length sc,.slice tO T.length tc] 40)).heap.size=w.heap.size+1 by simp]at hx
  rw[hW];exact hx
 subst hW;cases hn:dK [(M,xs.length),(L,ys.length)]with
 | false=>
  have E:Hid (Z=false):=by
   show Z=_;rw[hZ.out];unfold z8;simp[hn]
  clear hZ;rw[hn]at R;go_enter func170,ntmps170;go_wp2_with fail;refine mr (R.out _ (by rfl)) fun w1 hb=>?_
  have g0:=((aa.new w [.int .i64 0,.int .i64 0,.int .i64 0,.int .i64 M,.slice ao xs.length cap,.int .i64 L,.slice qo ys.length dap,.slice so S.length sc,.slice tO T.length tc] 40).kept (below_alloc _ _)).kept hb
  have g1:=g0.cell 7 rfl;have g2:=g0.cell 8 rfl;clear g0;replace hb:=bg bW hb;go_wp2;go_ret;rw[E.out];exact⟨rfl,hb⟩
 | true=>
  by_cases qS:(S.length:Int)=0;rotate_left
  .have dS:((S.length:Int)==0)=false:=beq_eq_false_iff_ne.2 qS
   have E:Hid (Z=false):=by
    show Z=_;rw[hZ.out];unfold z8;simp[hn,show ¬S=[]from fun e=>qS (by rw[e];rfl)]
   clear hZ;rw[hn]at R;go_enter func170,ntmps170;go_wp2_with fail;refine mr (R.out _ (by rfl)) fun w1 hb=>?_
   have g0:=((aa.new w [.int .i64 0,.int .i64 0,.int .i64 0,.int .i64 M,.slice ao xs.length cap,.int .i64 L,.slice qo ys.length dap,.slice so S.length sc,.slice tO T.length tc] 40).kept (below_alloc _ _)).kept hb
   have g1:=g0.cell 7 rfl;have g2:=g0.cell 8 rfl;clear g0;replace hb:=bg bW hb;go_wp2;go_ret;rw[E.out];exact⟨rfl,hb⟩
  have dS:((S.length:Int)==0)=true:=by simp only[qS];rfl
  by_cases qT:(T.length:Int)=0;rotate_left
  .have dT:((T.length:Int)==0)=false:=beq_eq_false_iff_ne.2 qT
   have E:Hid (Z=false):=by
    show Z=_;rw[hZ.out];unfold z8;simp[hn,show S=[]from List.eq_nil_of_length_eq_zero (by omega),show ¬T=[]from fun e=>qT (by rw[e];rfl)]
   clear hZ;rw[hn]at R;go_enter func170,ntmps170;go_wp2_with fail;refine mr (R.out _ (by rfl)) fun w1 hb=>?_
   have g0:=((aa.new w [.int .i64 0,.int .i64 0,.int .i64 0,.int .i64 M,.slice ao xs.length cap,.int .i64 L,.slice qo ys.length dap,.slice so S.length sc,.slice tO T.length tc] 40).kept (below_alloc _ _)).kept hb
   have g1:=g0.cell 7 rfl;have g2:=g0.cell 8 rfl;clear g0;replace hb:=bg bW hb;go_wp2;go_ret;rw[E.out];exact⟨rfl,hb⟩
  have dT:((T.length:Int)==0)=true:=by simp only[qT];rfl
  have E:Hid (Z=true):=by
   show Z=_;rw[hZ.out];unfold z8;simp[hn,show S=[]from List.eq_nil_of_length_eq_zero (by omega),show T=[]from List.eq_nil_of_length_eq_zero (by omega)]
  clear hZ;rw[hn]at R;go_enter func170,ntmps170;go_wp2_with fail;refine mr (R.out _ (by rfl)) fun w1 hb=>?_
  have g0:=((aa.new w [.int .i64 0,.int .i64 0,.int .i64 0,.int .i64 M,.slice ao xs.length cap,.int .i64 L,.slice qo ys.length dap,.slice so S.length sc,.slice tO T.length tc] 40).kept (below_alloc _ _)).kept hb
  have g1:=g0.cell 7 rfl;have g2:=g0.cell 8 rfl;clear g0;replace hb:=bg bW hb;go_wp2;go_ret;rw[E.out];exact⟨rfl,hb⟩
theorem De(cs:List Value)(a:bm)(w:World)(h:eG w cs a):
  Qq 171 #[.agg cs.toArray] w (.bool (z9 a)):=by
 obtain⟨ao,cap,qo,dap,rfl, -⟩:=h;obtain⟨N,M,k,V,LM,xs,H,ys⟩:=a;dsimp only;obtain⟨Z,hZ⟩:∃Z,Hid (Z=z9 ⟨N,M,k,V,LM,xs,H,ys⟩):=⟨_,rfl⟩;rw[<-hZ.out];by_cases qN:N=0;rotate_left
 .have dN:(N==0)=false:=by simp[qN]
  have E:Hid (Z=false):=by
   show Z=_;rw[hZ.out];unfold z9;simp[qN]
  clear hZ;go_enter func171,ntmps171;go_wp2;go_ret;rw[E.out];exact⟨rfl,below_alloc _ _⟩
 subst qN;by_cases qM:M=0;rotate_left
 .have dM:(M==0)=false:=by simp[qM]
  have E:Hid (Z=false):=by
   show Z=_;rw[hZ.out];unfold z9;simp[qM]
  clear hZ;go_enter func171,ntmps171;go_wp2;go_ret;rw[E.out];exact⟨rfl,below_alloc _ _⟩
 subst qM;by_cases qk:k=0;rotate_left
 .have dk:(k==0)=false:=by simp[qk]
  have E:Hid (Z=false):=by
   show Z=_;rw[hZ.out];unfold z9;simp[qk]
  clear hZ;go_enter func171,ntmps171;go_wp2;go_ret;rw[E.out];exact⟨rfl,below_alloc _ _⟩
 subst qk;by_cases qV:V=0;rotate_left
 .have dV:(V==0)=false:=by simp[qV]
  have E:Hid (Z=false):=by
   show Z=_;rw[hZ.out];unfold z9;simp[qV]
  clear hZ;go_enter func171,ntmps171;go_wp2;go_ret;rw[E.out];exact⟨rfl,below_alloc _ _⟩
 subst qV
 obtain⟨W,hW⟩:∃W,W=(w.alloc (.cells #[.int .i64 0,.int .i64 0,.int .i64 0,.int .i64 0,.int .i64 LM,.slice ao xs.length cap,.int .i64 H,.slice qo ys.length dap] 42)).alloc (.cells #[.int .i64 LM,.slice ao xs.length cap,.int .i64 H,.slice qo ys.length dap] 33):=⟨_,rfl⟩
 have bW:=cW hW
 have R:Hid (∀w0:World,w0=W->Qq 238 #[.slice (some ⟨w.heap.size+1,0,none⟩) 2 2] w0 (.bool (dK [(LM,xs.length),(H,ys.length)]))):=fun w0 g=>by
  subst g;refine qb _ 2 [(LM,xs.length),(H,ys.length)] w0 ?_ (by simp)
  have hx:=tw (w.alloc (.cells #[.int .i64 0,.int .i64 0,.int .i64 0,.int .i64 0,.int .i64 LM,.slice ao xs.length cap,.int .i64 H,.slice qo ys.length dap] 42)) LM ao xs.length cap H qo ys.length dap 33
  rw[show(w.alloc (.cells #[.int .i64 0,.int .i64 0,.int .i64 0,.int .i64 0,.int .i64 LM,.slice ao xs.length cap,.int .i64 H,.slice qo ys.length dap] 42)).heap.size=w.heap.size+1 by simp]at hx;rw[hW];exact hx
 subst hW;cases hn:dK [(LM,xs.length),(H,ys.length)]with
 | false=>
  have E:Hid (Z=false):=by
   show Z=_;rw[hZ.out];unfold z9;simp[hn]
  clear hZ;rw[hn]at R;go_enter func171,ntmps171;go_wp2_with fail;refine mr (R.out _ (by rfl)) fun w1 hb=>?_;replace hb:=bg bW hb;go_wp2;go_ret;rw[E.out];exact⟨rfl,hb⟩
 | true=>
  have E:Hid (Z=true):=by
   show Z=_;rw[hZ.out];unfold z9;simp[hn]
  clear hZ;rw[hn]at R;go_enter func171,ntmps171;go_wp2_with fail;refine mr (R.out _ (by rfl)) fun w1 hb=>?_;replace hb:=bg bW hb;go_wp2;go_ret;rw[E.out];exact⟨rfl,hb⟩
theorem parts{w:World}{b:Nat}{K:Value}{cp cr cf:List Value}{T:TypeId}(l4:cp.length=4)(l9:9=cr.length)(h:aa w b (K::(cp++(cr++cf))) T):w.cell? ⟨b,0,none⟩=some K/\w.rangeAt b 1 cp/\w.rangeAt b 5 cr/\w.rangeAt b 14 cf:=by
 have a2:=aa.part (K::cp) cr cf h;rw[List.length_cons,l4]at a2;have h':aa w b ((K::(cp++cr))++(cf++[])) T:=by simpa using h
 have a3:=aa.part (K::(cp++cr)) cf [] h';rw[List.length_cons,List.length_append,l4,<-l9]at a3;exact⟨h.cell 0 rfl,aa.part [K] cp (cr++cf) h,a2,a3⟩
theorem gW(cs:List Value)(a:RA)(w:World)(h:eU w cs a):
  Qq 102 #[.agg cs.toArray] w (.int .i64 (kOn a)):=by
 obtain⟨cp,cr,cf,rfl,hK,h1,h2,h3⟩:=h;have l4:=Hid.mk8 h1.four;have l9:=Hid.mk8 h2.nine;have LP:=Hid.mk8 h1.len;have LR:=Hid.mk8 h2.len;have LF:=Hid.mk8 h3.len;obtain⟨K,p,r,f⟩:=a;dsimp only at *
 obtain⟨W,hW⟩:∃W,W=w.alloc (.cells (Value.int .i64 K::(cp++(cr++cf))).toArray 44):=⟨_,rfl⟩;have bw:Below w.heap.size w W:=by rw[hW];exact below_alloc w _
 have B0:=aU hW;obtain⟨O,hO⟩:∃O,Hid (O=kOn ⟨K,p,r,f⟩):=⟨_,rfl⟩;rw[<-hO.out]
 have N7:Hid (Qz w 169 #[.agg cp.toArray] (.bool (z7 p))):=fun w0 g=>Dd cp p w0 (h1.keep g)
 have N8:Hid (Qz w 170 #[.agg cr.toArray] (.bool (z8 r))):=fun w0 g=>Dc cr r w0 (h2.keep g)
 have N9:Hid (Qz w 171 #[.agg cf.toArray] (.bool (z9 f))):=fun w0 g=>De cf f w0 (h3.keep g);clear h1 h2 h3;subst hW
 by_cases q1:K=1
 .subst q1;cases y8:z8 r with
  | false=>
   have E:Hid (O=0):=by
    show O=_;rw[hO.out];unfold kOn da;simp[y8]
   rw[y8]at N8;clear hO;go_enter func102,ntmps102;obtain⟨c0,p1,p2,p3⟩:=parts l4.out l9.out B0;go_wp2_with (refine aN w.heap.size 5 cr (by rfl) rfl p2 underlying40 LR.out ?_)
   refine mr (N8.out _ bw) fun w8 hb=>?_;replace B0:=B0.kept hb;replace bw:=bg bw hb;clear hb c0 p1 p2 p3;obtain⟨c0,p1,p2,p3⟩:=parts l4.out l9.out B0;go_wp2;go_ret;rw[E.out]
   exact⟨rfl,bw⟩
  | true=>
   cases y9:z9 f with
   | false=>
    have E:Hid (O=0):=by
     show O=_;rw[hO.out];unfold kOn da;simp[y8,y9]
    rw[y8]at N8;rw[y9]at N9;clear hO;go_enter func102,ntmps102;obtain⟨c0,p1,p2,p3⟩:=parts l4.out l9.out B0;go_wp2_with (refine aN w.heap.size 5 cr (by rfl) rfl p2 underlying40 LR.out ?_)
    refine mr (N8.out _ bw) fun w8 hb=>?_;replace B0:=B0.kept hb;replace bw:=bg bw hb;clear hb c0 p1 p2 p3;obtain⟨c0,p1,p2,p3⟩:=parts l4.out l9.out B0
    go_wp2_with (refine aN w.heap.size 14 cf (by rfl) rfl p3 underlying42 LF.out ?_);refine mr (N9.out _ bw) fun w9 hb=>?_;replace B0:=B0.kept hb;replace bw:=bg bw hb
    clear hb c0 p1 p2 p3;obtain⟨c0,p1,p2,p3⟩:=parts l4.out l9.out B0;go_wp2;go_ret;rw[E.out];exact⟨rfl,bw⟩
   | true=>
    have E:Hid (O=1):=by
     show O=_;rw[hO.out];unfold kOn da;simp[y8,y9]
    rw[y8]at N8;rw[y9]at N9;clear hO;go_enter func102,ntmps102;obtain⟨c0,p1,p2,p3⟩:=parts l4.out l9.out B0;go_wp2_with (refine aN w.heap.size 5 cr (by rfl) rfl p2 underlying40 LR.out ?_)
    refine mr (N8.out _ bw) fun w8 hb=>?_;replace B0:=B0.kept hb;replace bw:=bg bw hb;clear hb c0 p1 p2 p3;obtain⟨c0,p1,p2,p3⟩:=parts l4.out l9.out B0
    go_wp2_with (refine aN w.heap.size 14 cf (by rfl) rfl p3 underlying42 LF.out ?_);refine mr (N9.out _ bw) fun w9 hb=>?_;replace B0:=B0.kept hb;replace bw:=bg bw hb
    clear hb c0 p1 p2 p3;obtain⟨c0,p1,p2,p3⟩:=parts l4.out l9.out B0;go_wp2;go_ret;rw[E.out];exact⟨rfl,bw⟩
 have d1:(K != 1)=true:=by simp[q1]
 by_cases q2:K=2
 .subst q2;cases y7:z7 p with
  | false=>
   have E:Hid (O=0):=by
    show O=_;rw[hO.out];unfold kOn da;simp[y7]
   rw[y7]at N7;clear hO;go_enter func102,ntmps102;obtain⟨c0,p1,p2,p3⟩:=parts l4.out l9.out B0;go_wp2_with (refine aN w.heap.size 1 cp (by rfl) rfl p1 underlying36 LP.out ?_)
   refine mr (N7.out _ bw) fun w7 hb=>?_;replace B0:=B0.kept hb;replace bw:=bg bw hb;clear hb c0 p1 p2 p3;obtain⟨c0,p1,p2,p3⟩:=parts l4.out l9.out B0;go_wp2;go_ret;rw[E.out]
   exact⟨rfl,bw⟩
  | true=>
   cases y9:z9 f with
   | false=>
    have E:Hid (O=0):=by
     show O=_;rw[hO.out];unfold kOn da;simp[y7,y9]
    rw[y7]at N7;rw[y9]at N9;clear hO;go_enter func102,ntmps102;obtain⟨c0,p1,p2,p3⟩:=parts l4.out l9.out B0;go_wp2_with (refine aN w.heap.size 1 cp (by rfl) rfl p1 underlying36 LP.out ?_)
    refine mr (N7.out _ bw) fun w7 hb=>?_;replace B0:=B0.kept hb;replace bw:=bg bw hb;clear hb c0 p1 p2 p3;obtain⟨c0,p1,p2,p3⟩:=parts l4.out l9.out B0
    go_wp2_with (refine aN w.heap.size 14 cf (by rfl) rfl p3 underlying42 LF.out ?_);refine mr (N9.out _ bw) fun w9 hb=>?_;replace B0:=B0.kept hb;replace bw:=bg bw hb
    clear hb c0 p1 p2 p3;obtain⟨c0,p1,p2,p3⟩:=parts l4.out l9.out B0;go_wp2;go_ret;rw[E.out];exact⟨rfl,bw⟩
   | true=>
    have E:Hid (O=2):=by
     show O=_;rw[hO.out];unfold kOn da;simp[y7,y9]
    rw[y7]at N7;rw[y9]at N9;clear hO;go_enter func102,ntmps102;obtain⟨c0,p1,p2,p3⟩:=parts l4.out l9.out B0;go_wp2_with (refine aN w.heap.size 1 cp (by rfl) rfl p1 underlying36 LP.out ?_)
    refine mr (N7.out _ bw) fun w7 hb=>?_;replace B0:=B0.kept hb;replace bw:=bg bw hb;clear hb c0 p1 p2 p3;obtain⟨c0,p1,p2,p3⟩:=parts l4.out l9.out B0
    go_wp2_with (refine aN w.heap.size 14 cf (by rfl) rfl p3 underlying42 LF.out ?_);refine mr (N9.out _ bw) fun w9 hb=>?_;replace B0:=B0.kept hb;replace bw:=bg bw hb
    clear hb c0 p1 p2 p3;obtain⟨c0,p1,p2,p3⟩:=parts l4.out l9.out B0;go_wp2;go_ret;rw[E.out];exact⟨rfl,bw⟩
 have d2:(K != 2)=true:=by simp[q2]
 by_cases q3:K=3
 .subst q3;cases y7:z7 p with
  | false=>
   have E:Hid (O=0):=by
    show O=_;rw[hO.out];unfold kOn da;simp[y7]
   rw[y7]at N7;clear hO;go_enter func102,ntmps102;obtain⟨c0,p1,p2,p3⟩:=parts l4.out l9.out B0;go_wp2_with (refine aN w.heap.size 1 cp (by rfl) rfl p1 underlying36 LP.out ?_)
   refine mr (N7.out _ bw) fun w7 hb=>?_;replace B0:=B0.kept hb;replace bw:=bg bw hb;clear hb c0 p1 p2 p3;obtain⟨c0,p1,p2,p3⟩:=parts l4.out l9.out B0;go_wp2;go_ret;rw[E.out]
   exact⟨rfl,bw⟩
  | true=>
   cases y8:z8 r with
   | false=>
    have E:Hid (O=0):=by
     show O=_;rw[hO.out];unfold kOn da;simp[y7,y8]
    rw[y7]at N7;rw[y8]at N8;clear hO;go_enter func102,ntmps102;obtain⟨c0,p1,p2,p3⟩:=parts l4.out l9.out B0;go_wp2_with (refine aN w.heap.size 1 cp (by rfl) rfl p1 underlying36 LP.out ?_)
    refine mr (N7.out _ bw) fun w7 hb=>?_;replace B0:=B0.kept hb;replace bw:=bg bw hb;clear hb c0 p1 p2 p3;obtain⟨c0,p1,p2,p3⟩:=parts l4.out l9.out B0
    go_wp2_with (refine aN w.heap.size 5 cr (by rfl) rfl p2 underlying40 LR.out ?_);refine mr (N8.out _ bw) fun w8 hb=>?_;replace B0:=B0.kept hb;replace bw:=bg bw hb
    clear hb c0 p1 p2 p3;obtain⟨c0,p1,p2,p3⟩:=parts l4.out l9.out B0;go_wp2;go_ret;rw[E.out];exact⟨rfl,bw⟩
   | true=>
    have E:Hid (O=3):=by
     show O=_;rw[hO.out];unfold kOn da;simp[y7,y8]
    rw[y7]at N7;rw[y8]at N8;clear hO;go_enter func102,ntmps102;obtain⟨c0,p1,p2,p3⟩:=parts l4.out l9.out B0;go_wp2_with (refine aN w.heap.size 1 cp (by rfl) rfl p1 underlying36 LP.out ?_)
    refine mr (N7.out _ bw) fun w7 hb=>?_;replace B0:=B0.kept hb;replace bw:=bg bw hb;clear hb c0 p1 p2 p3;obtain⟨c0,p1,p2,p3⟩:=parts l4.out l9.out B0
    go_wp2_with (refine aN w.heap.size 5 cr (by rfl) rfl p2 underlying40 LR.out ?_);refine mr (N8.out _ bw) fun w8 hb=>?_;replace B0:=B0.kept hb;replace bw:=bg bw hb
    clear hb c0 p1 p2 p3;obtain⟨c0,p1,p2,p3⟩:=parts l4.out l9.out B0;go_wp2;go_ret;rw[E.out];exact⟨rfl,bw⟩
 have d3:(K != 3)=true:=by simp[q3]
 cases y7:z7 p with
 | false=>
  have E:Hid (O=0):=by
   show O=_;rw[hO.out];unfold kOn da;simp[q1,q2,q3,y7]
  rw[y7]at N7;clear hO;go_enter func102,ntmps102;obtain⟨c0,p1,p2,p3⟩:=parts l4.out l9.out B0;go_wp2_with (refine aN w.heap.size 1 cp (by rfl) rfl p1 underlying36 LP.out ?_)
  refine mr (N7.out _ bw) fun w7 hb=>?_;replace B0:=B0.kept hb;replace bw:=bg bw hb;clear hb c0 p1 p2 p3;obtain⟨c0,p1,p2,p3⟩:=parts l4.out l9.out B0;go_wp2;go_ret;rw[E.out]
  exact⟨rfl,bw⟩
 | true=>
  cases y8:z8 r with
  | false=>
   have E:Hid (O=0):=by
    show O=_;rw[hO.out];unfold kOn da;simp[q1,q2,q3,y7,y8]
   rw[y7]at N7;rw[y8]at N8;clear hO;go_enter func102,ntmps102;obtain⟨c0,p1,p2,p3⟩:=parts l4.out l9.out B0;go_wp2_with (refine aN w.heap.size 1 cp (by rfl) rfl p1 underlying36 LP.out ?_)
   refine mr (N7.out _ bw) fun w7 hb=>?_;replace B0:=B0.kept hb;replace bw:=bg bw hb;clear hb c0 p1 p2 p3;obtain⟨c0,p1,p2,p3⟩:=parts l4.out l9.out B0
   go_wp2_with (refine aN w.heap.size 5 cr (by rfl) rfl p2 underlying40 LR.out ?_);refine mr (N8.out _ bw) fun w8 hb=>?_;replace B0:=B0.kept hb;replace bw:=bg bw hb
   clear hb c0 p1 p2 p3;obtain⟨c0,p1,p2,p3⟩:=parts l4.out l9.out B0;go_wp2;go_ret;rw[E.out];exact⟨rfl,bw⟩
  | true=>
   cases y9:z9 f with
   | false=>
    have E:Hid (O=0):=by
     show O=_;rw[hO.out];unfold kOn da;simp[q1,q2,q3,y7,y8,y9]
    rw[y7]at N7;rw[y8]at N8;rw[y9]at N9;clear hO;go_enter func102,ntmps102;obtain⟨c0,p1,p2,p3⟩:=parts l4.out l9.out B0
    go_wp2_with (refine aN w.heap.size 1 cp (by rfl) rfl p1 underlying36 LP.out ?_);refine mr (N7.out _ bw) fun w7 hb=>?_;replace B0:=B0.kept hb;replace bw:=bg bw hb
    clear hb c0 p1 p2 p3;obtain⟨c0,p1,p2,p3⟩:=parts l4.out l9.out B0;go_wp2_with (refine aN w.heap.size 5 cr (by rfl) rfl p2 underlying40 LR.out ?_);refine mr (N8.out _ bw) fun w8 hb=>?_
    replace B0:=B0.kept hb;replace bw:=bg bw hb;clear hb c0 p1 p2 p3;obtain⟨c0,p1,p2,p3⟩:=parts l4.out l9.out B0
    go_wp2_with (refine aN w.heap.size 14 cf (by rfl) rfl p3 underlying42 LF.out ?_);refine mr (N9.out _ bw) fun w9 hb=>?_;replace B0:=B0.kept hb;replace bw:=bg bw hb
    clear hb c0 p1 p2 p3;obtain⟨c0,p1,p2,p3⟩:=parts l4.out l9.out B0;go_wp2;go_ret;rw[E.out];exact⟨rfl,bw⟩
   | true=>
    have E:Hid (O=K):=by
     show O=_;rw[hO.out];unfold kOn da;simp[q1,q2,q3,y7,y8,y9]
    rw[y7]at N7;rw[y8]at N8;rw[y9]at N9;clear hO;go_enter func102,ntmps102;obtain⟨c0,p1,p2,p3⟩:=parts l4.out l9.out B0
    go_wp2_with (refine aN w.heap.size 1 cp (by rfl) rfl p1 underlying36 LP.out ?_);refine mr (N7.out _ bw) fun w7 hb=>?_;replace B0:=B0.kept hb;replace bw:=bg bw hb
    clear hb c0 p1 p2 p3;obtain⟨c0,p1,p2,p3⟩:=parts l4.out l9.out B0;go_wp2_with (refine aN w.heap.size 5 cr (by rfl) rfl p2 underlying40 LR.out ?_);refine mr (N8.out _ bw) fun w8 hb=>?_
    replace B0:=B0.kept hb;replace bw:=bg bw hb;clear hb c0 p1 p2 p3;obtain⟨c0,p1,p2,p3⟩:=parts l4.out l9.out B0
    go_wp2_with (refine aN w.heap.size 14 cf (by rfl) rfl p3 underlying42 LF.out ?_);refine mr (N9.out _ bw) fun w9 hb=>?_;replace B0:=B0.kept hb;replace bw:=bg bw hb
    clear hb c0 p1 p2 p3;obtain⟨c0,p1,p2,p3⟩:=parts l4.out l9.out B0;go_wp2;go_ret;rw[E.out];exact⟨rfl,bw⟩
end Go.Proofs.YtleegaihbgbcjaaGreatDoor
namespace Go.Proofs.YtleegaihbgbcjaaGreatDoor
open Num
namespace Bit
def aA(xs:List Nat)(g:Nat):List Nat:=(xs.drop (8*g)).take 8
theorem dB(xs:List Nat)(g:Nat):(aA xs g).length=min 8 (xs.length-8*g):=by simp[aA]
theorem qH(xs:List Nat)(g k:Nat)(h:k<8):gt (aA xs g) k=gt xs (8*g+k):=by
 unfold gt aA;rw[List.getD_eq_getElem?_getD,List.getD_eq_getElem?_getD,List.getElem?_take_of_lt h,List.getElem?_drop]
theorem wI(xs:List Nat)(hf:Fit xs)(g:Nat):Fit (aA xs g):=by
 intro i;by_cases h:i<8
 .rw[qH xs g i h];exact hf _
 .rw[jq _ _ (by rw[dB];omega)];decide
theorem JD(xs:List Nat)(g i:Nat)(h:i<512):bitAt (aA xs g) i=bitAt xs (512*g+i):=by
 unfold bitAt;rw[qH xs g (i/64) (by omega),show(512*g+i)/64=8*g+i/64 by omega,show(512*g+i)%64=i%64 by omega]
theorem rr(xs:List Nat)(g:Nat):∀i,i<=512->cntB xs (512*g+i)=cntB xs (512*g)+cntB (aA xs g) i
 | 0,_=>by simp[cntB]
 | i+1,h=>by
  have ih:=rr xs g i (by omega);rw[show 512*g+(i+1)=512*g+i+1 by omega];simp only[cntB];rw[ih,JD xs g i (by omega)];omega
theorem JA(xs:List Nat)(i:Nat)(h:64*xs.length<=i):bitAt xs i=false:=by
 unfold bitAt;rw[jq xs _ (by omega)];simp
theorem Ik(xs:List Nat)(d:Nat):cntB xs (64*xs.length+d)=cntB xs (64*xs.length):=by
 induction d with
 | zero=>rfl
 | succ d ih=>
  rw[show 64*xs.length+(d+1)=64*xs.length+d+1 by omega];simp only[cntB];rw[ih,JA xs _ (by omega)];simp
theorem xe(xs:List Nat)(g:Nat):cntB xs (512*(g+1))=cntB xs (512*g)+cntB (aA xs g) (64*(aA xs g).length):=by
 have a:=rr xs g 512 (by omega);have hl:(aA xs g).length<=8:=by rw[dB];omega
 have b:=Ik (aA xs g) (512-64*(aA xs g).length);rw[show 64*(aA xs g).length+(512-64*(aA xs g).length)=512 by omega]at b;rw[show 512*(g+1)=512*g+512 by omega,a,b]
def ix(ws:List Nat)(q:Nat):List Int:=(List.range 8).map fun j=>if j<q then (cntB ws (64*j):Int)else 0
def fA(ws:List Nat):List Int:=ix ws ws.length
theorem jP(ws:List Nat)(q:Nat):(ix ws q).length=8:=by simp[ix]
theorem kD(ws:List Nat):(fA ws).length=8:=jP _ _
theorem qR(ws:List Nat)(q i:Nat)(h:i<8):gi (ix ws q) i=if i<q then (cntB ws (64*i):Int)else 0:=iM _ _ _ h
theorem JU(ws:List Nat):ix ws 0=List.replicate 8 0:=by
 unfold ix;simp;rfl
theorem F_(l:List Int)(i j:Nat)(v:Int)(h:i<l.length):gi (l.set i v) j=if i=j then v else gi l j:=by
 unfold gi;rw[List.getD_eq_getElem?_getD,List.getD_eq_getElem?_getD,List.getElem?_set];by_cases c:i=j
 .subst c;simp[h]
 .simp[c]
theorem JV(ws:List Nat)(q:Nat)(h:q<8):(ix ws q).set q (cntB ws (64*q):Int)=ix ws (q+1):=by
 refine js (by simp[jP]) fun i hi=>?_;rw[List.length_set,jP]at hi;rw[F_ _ _ _ _ (by rw[jP];exact h),qR _ _ _ hi,qR _ _ _ hi];by_cases c:q=i
 .subst c;rw[if_pos rfl,if_pos (by omega)]
 .rw[if_neg c];by_cases d:i<q
  .rw[if_pos d,if_pos (by omega)]
  .rw[if_neg d,if_neg (by omega)]
theorem Ij(ws:List Nat)(q:Nat):cntB ws (64*(q+1))=cntB ws (64*q)+cnt (gt ws q) 64:=by
 have:=jY ws q 64 (Nat.le_refl _);rw[show 64*(q+1)=64*q+64 by omega];exact this
def ahT(xs:List Nat)(g:Nat):List Int:=(fA (aA xs g)).take (aA xs g).length
theorem jO(xs:List Nat)(g:Nat):(ahT xs g).length=(aA xs g).length:=by
 unfold ahT;rw[List.length_take,kD,dB];omega
theorem kR(l:List Int)(n i:Nat)(h:i<n):gi (l.take n) i=gi l i:=by
 unfold gi;rw[List.getD_eq_getElem?_getD,List.getD_eq_getElem?_getD,List.getElem?_take_of_lt h]
theorem qP(l:List Int)(n i:Nat):gi (l.drop n) i=gi l (n+i):=by
 unfold gi;rw[List.getD_eq_getElem?_getD,List.getD_eq_getElem?_getD,List.getElem?_drop]
theorem qQ(xs:List Nat)(g i:Nat)(h:i<(aA xs g).length):gi (ahT xs g) i=(cntB (aA xs g) (64*i):Int):=by
 have:=dB xs g;unfold ahT;rw[kR _ _ _ h];unfold fA;rw[qR _ _ _ (by omega),if_pos h]
theorem rt(N:Int)(xs:List Nat)(h:ar N xs=true):∃m:Nat,N=(m:Int)/\m<=1048576/\xs.length=(m+63)/64:=by
 obtain⟨h0,h1,h2,_⟩:=bp N xs h;exact⟨N.toNat,by omega,by omega,by omega⟩
theorem pX(m:Nat)(xs:List Nat)(hk:ar (m:Int) xs=true)(i:Nat)(hi:i<=m):onesI (m:Int) xs (i:Int)=(cntB xs i:Int):=by
 unfold onesI;rw[if_pos hk,show(min (i:Int) (m:Int)).toNat=i by omega]
theorem mY(m:Nat)(xs:List Nat)(hk:ar (m:Int) xs=true)(g:Nat)(hg:g<=m/512):fH (m:Int) xs g=(cntB xs (512*g):Int):=by
 unfold fH;have:=pX m xs hk (512*g) (by omega);rw[<-this];congr 1
theorem pw(m:Nat)(xs:List Nat)(hk:ar (m:Int) xs=true)(hl:xs.length=(m+63)/64)(g i:Nat)(hi:i<(aA xs g).length):fI (m:Int) xs (8*g+i)=(cntB (aA xs g) (64*i):Int):=by
 rw[dB]at hi;unfold fI;have a:=pX m xs hk (64*(8*g+i)) (by omega);have b:=mY m xs hk g (by omega);have c:=rr xs g (64*i) (by omega)
 rw[show 512*g+64*i=64*(8*g+i)by omega]at c;rw[show(64*((8*g+i:Nat):Int))=((64*(8*g+i):Nat):Int)by omega,a,show(8*g+i)/8=g by omega,b,c];omega
theorem yL(m:Nat)(xs:List Nat)(hk:ar (m:Int) xs=true)(hl:xs.length=(m+63)/64)(g:Nat)(hg:8*g<=xs.length):dG (m:Int) xs (8*g)++ahT xs g=dG (m:Int) xs (8*g+(aA xs g).length):=by
 refine js (by rw[List.length_append,jm,jm,jO]) fun i hi=>?_;rw[List.length_append,jm,jO]at hi;rw[kS _ _ _ _ hi];by_cases c:i<8*g
 .have:gi (dG (m:Int) xs (8*g)++ahT xs g) i=gi (dG (m:Int) xs (8*g)) i:=by
   unfold gi;rw[List.getD_eq_getElem?_getD,List.getD_eq_getElem?_getD,List.getElem?_append_left (by rw[jm];exact c)]
  rw[this,kS _ _ _ _ c]
 .have:gi (dG (m:Int) xs (8*g)++ahT xs g) i=gi (ahT xs g) (i-8*g):=by
   unfold gi;rw[List.getD_eq_getElem?_getD,List.getD_eq_getElem?_getD,List.getElem?_append_right (by rw[jm];omega),jm]
  rw[this,qQ xs g _ (by omega),<-pw m xs hk hl g (i-8*g) (by omega),show 8*g+(i-8*g)=i by omega]
def wb(xs:List Nat)(bit:Bool)(j:Nat):Nat:=if bit then gt xs j else 18446744073709551615-gt xs j
theorem yj(xs:List Nat)(hf:Fit xs)(bit:Bool)(j:Nat):wb xs bit j<18446744073709551616:=by
 have:=hf j;unfold wb;split<;>omega
theorem ry(xs:List Nat)(hf:Fit xs)(bit:Bool)(j r:Nat)(hr:r<=64):cB xs bit (64*j+r)=cB xs bit (64*j)+cnt (wb xs bit j) r:=by
 have a:=jY xs j r hr;have l:=eu xs (64*j);have l2:=dc (gt xs j) r;unfold cB wb;cases bit with
 | true=>simp only[if_true];exact a
 | false=>
  have f:=oM (gt xs j) r 64 (by have:=hf j;omega) hr;rw[show(2^64-1-gt xs j)=18446744073709551615-gt xs j by omega]at f;simp only[Bool.false_eq_true,if_false];rw[a,f];omega
theorem yk(xs:List Nat)(hf:Fit xs)(bit:Bool)(j r:Nat)(hr:r<64)(h:bitAt xs (64*j+r)=bit):wb xs bit j/2^r%2=1:=by
 have a:=ry xs hf bit j r (by omega);have b:=ry xs hf bit j (r+1) (by omega);have c:=iP xs bit (64*j+r);rw[if_pos h]at c;rw[show 64*j+(r+1)=64*j+r+1 by omega]at b;simp only[cnt]at b
 have:(wb xs bit j/2^r%2)<2:=Nat.mod_lt _ (by decide);revert b;generalize wb xs bit j/2^r%2=z at *;intro b;omega
theorem yZ(m:Nat)(xs:List Nat)(hf:Fit xs)(hl:xs.length=(m+63)/64)(bit:Bool)(k j:Nat)(hk:k<cB xs bit m)(hj:j<=xs.length-1)
  (h1:∀i,i<j->cB xs bit (64*(i+1))<=k) (h2:∀i,j<=i->i<xs.length-1->k<cB xs bit (64*(i+1))):
  cB xs bit (64*j)<=k/\∃r:Nat,r<64/\iB (wb xs bit j:Int) ((k:Int)-(cB xs bit (64*j):Int))=(r:Int)/\cd (m:Int) xs bit (k:Int)=some (64*j+r):=by
 have hle:cB xs bit (64*j)<=k:=by
  by_cases c:j=0
  .subst c;have:=fu xs bit (64*0);omega
  .have:=h1 (j-1) (by omega);rw[show j-1+1=j by omega]at this;exact this
 refine⟨hle,?_⟩;have hs:(cd (m:Int) xs bit (k:Int)).isSome=true:=(ja _ _ _ _).2 ⟨by omega,by rw[Int.toNat_natCast];omega⟩;obtain⟨i,hi⟩:=Option.isSome_iff_exists.1 hs
 obtain⟨g1,g2,g3⟩:=pS _ _ _ _ _ hi;rw[Int.toNat_natCast]at g1
 have e1:64*j<=i:=by
  apply Nat.le_of_not_lt;intro c;have a:=iP xs bit i;rw[if_pos g2]at a;have b:=iQ xs bit (i+1) (64*j-(i+1));rw[show i+1+(64*j-(i+1))=64*j by omega]at b;omega
 have e2:i<64*(j+1):=by
  apply Nat.lt_of_not_le;intro c;have a:=h2 j (Nat.le_refl _) (by omega);have b:=iQ xs bit (64*(j+1)) (i-64*(j+1));rw[show 64*(j+1)+(i-64*(j+1))=i by omega]at b;omega
 have ei:i=64*j+(i-64*j):=by omega
 refine⟨i-64*j,by omega,?_,by rw[<-ei];exact hi⟩;have w1:=yk xs hf bit j (i-64*j) (by omega) (by rw[<-ei];exact g2);have w2:=ry xs hf bit j (i-64*j) (by omega);rw[<-ei]at w2;unfold iB
 rw[Int.toNat_natCast];have:=tj (wb xs bit j) ((k:Int)-(cB xs bit (64*j):Int)) (i-64*j) w1 (by omega) (i-64*j) 0 (by omega) (by omega);rw[show 64-0=64 from rfl]at this;rw[this]
theorem Gy(xs:List Nat)(hf:Fit xs)(j:Nat):Go.bits .xor .u64 18446744073709551615 (gt xs j:Int)=(wb xs false j:Int):=by
 have h:=hf j;rw[wH _ (by omega) (by omega),Int.toNat_natCast];unfold wb;simp
theorem Hj(m:Nat)(xs:List Nat)(hf:Fit xs)(hk:ar (m:Int) xs=true)(hl:xs.length=(m+63)/64)(j r:Nat)(h0:0<r)(h1:r<=64)(h2:64*j+r<=m):
  fH (m:Int) xs (j/8)+fI (m:Int) xs j+dI (gt xs j:Int) (r:Int)=(cntB xs (64*j+r):Int):=by
 have a:=pX m xs hk (64*j) (by omega);have b:=jY xs j r h1;unfold fI dI;rw[show(64*(j:Int))=((64*j:Nat):Int)by omega,a,b,Int.toNat_natCast,Int.toNat_natCast,show min r 64=r by omega]
 omega
theorem lW(N:Int)(xs:List Nat)(su sb:List Int)(h:pchk N xs su sb=true):∃m:Nat,N=(m:Int)/\m<=1048576/\xs.length=(m+63)/64/\ar (m:Int) xs=true/\su=supL (m:Int) xs/\sb=subL (m:Int) xs:=by
 obtain⟨a,b,c⟩:=lV N xs su sb h;obtain⟨m,rfl,h1,h2⟩:=rt N xs a;exact⟨m,rfl,h1,h2,a,b,c⟩
end Bit
open Go.RowKit Num Bit
theorem wi(m:Nat)(hm:m<=1048576)(ao:Option Addr)(n cap:Nat)(w:World):
  Qq 149 #[.agg #[.int .i64 m,.slice ao n cap]] w (.int .i64 ((m/512+1:Nat):Int)):=by
 go_enter func149,ntmps149;go_wp2;go_ret;exact⟨cD (by omega),below_alloc w _⟩
theorem tF{a:Option Addr}{n k c:Nat}(h:n=k):Ending.returned (.slice a n c)=.returned (.slice a k c):=by rw[h]
theorem ye{w w':World}{b off:Nat}{xs:List Nat}(hb:b<w.heap.size)(hcc:∀i,i<xs.length->w.cell? ⟨b,off+i,none⟩=some (.int .u64 (gt xs i)))(hw:Below w.heap.size w w')(g:Nat):Wd w' (some ⟨b,off+8*g,none⟩) (aA xs g):=by
 intro h0;refine⟨b,off+8*g,rfl,Nat.lt_of_lt_of_le hb hw.size,fun i hi=>?_⟩;rw[dB]at hi;rw[qH xs g i (by omega),hw.cell (p:=⟨b,off+8*g+i,none⟩) hb,Nat.add_assoc];exact hcc _ (by omega)
theorem yd(w:World)(bo:Option Addr){xs:List Nat}(h:xs.length=0):Wd w bo xs:=fun h0=>absurd h0 (by omega)
def rM(xs:List Nat)(g:Nat)(w:World)(e:Ending)(w':World):Prop:=∃bo bc,e=.returned (.slice bo (aA xs g).length bc)/\Wd w' bo (aA xs g)/\Below w.heap.size w w'
theorem r9{xs:List Nat}{g n:Nat}{w w':World}{e:Ending}{bo:Option Addr}{k bc:Nat}(hn:Hid (n=xs.length))(hw:Below w.heap.size w w')(he:e=.returned (.slice bo k bc))(h8:n<=8*g)(hk:k=0):rM xs g w e w':=by
 have h0:(aA xs g).length=0:=by rw[dB];have:=hn.out;omega
 subst he hk;exact⟨bo,bc,tF h0.symm,yd _ _ h0,hw⟩
theorem r8{xs:List Nat}{g n:Nat}{w w':World}{e:Ending}{b off:Nat}{k bc:Nat}(hn:Hid (n=xs.length))(hx:Hid (Wd w (some ⟨b,off,none⟩) xs))(hw:Below w.heap.size w w')(o2:Nat)(he:e=.returned (.slice (some ⟨b,o2,none⟩) k bc))(h8:8*g<n)(ho:o2=off+8*g)(hk:k=min (8*g+8) n-8*g):rM xs g w e w':=by
 have h0:(aA xs g).length=k:=by rw[dB];have:=hn.out;omega
 obtain⟨b',off',e2,hb,hcc⟩:=hx.out (by have:=hn.out;omega);simp only[Option.some.injEq,Addr.mk.injEq]at e2;obtain⟨rfl,rfl,_⟩:=e2;subst he ho;exact⟨_,bc,tF h0.symm,ye hb hcc hw g,hw⟩
theorem x5(m:Nat)(hm:m<=1048576)(ao:Option Addr)(xs:List Nat)(cap n g:Nat)(HN:Hid (n=xs.length))(l1:8*g<=n)(l2:n<=16384)(hcap:n<=cap)(w:World)(HX:Hid (Wd w ao xs)):
  Calls prog 150 #[.agg #[.int .i64 m,.slice ao n cap],.int .i64 g] w (rM xs g w):=by
 by_cases h8:n=8*g
 .have d1:(n:Int)<((g:Int)+1)*8:=by omega
  cases ao with
  | none=>
   go_enter func150,ntmps150;go_wp2;all_goals go_ret
   all_goals exact r9 HN (below_alloc w _) rfl (by omega) (by omega)
  | some a=>
   go_enter func150,ntmps150;go_wp2;all_goals go_ret
   all_goals exact r9 HN (below_alloc w _) rfl (by omega) (by omega)
 .obtain⟨b,off,rfl,hb,hcc⟩:=HX.out (by have:=HN.out;omega);clear hcc hb;have h8':8*g<n:=by omega
  have h9:8*g<cap:=by omega
  by_cases h10:n<8*g+8
  .have d1:(n:Int)<((g:Int)+1)*8:=by omega
   go_enter func150,ntmps150;go_wp2;all_goals go_ret
   all_goals exact r8 HN HX (below_alloc w _) _ rfl (by omega) (by omega) (by omega)
  .have d1:¬(n:Int)<((g:Int)+1)*8:=by omega
   have d2:((g:Int)+1)*8<=(n:Int):=by omega
   go_enter func150,ntmps150;go_wp2;all_goals go_ret
   all_goals exact r8 HN HX (below_alloc w _) _ rfl (by omega) (by omega) (by omega)
theorem r_(m:Nat)(hm:m<=1048576)(ao:Option Addr)(xs:List Nat)(cap:Nat)(hl:xs.length=(m+63)/64)(hcap:xs.length<=cap)(g:Nat)(hg:g<=m/512)(w:World)(hx:Wd w ao xs):
  Calls prog 150 #[.agg #[.int .i64 m,.slice ao xs.length cap],.int .i64 g] w fun e w'=>∃bo bc,e=.returned (.slice bo (aA xs g).length bc)/\Wd w' bo (aA xs g)/\Below w.heap.size w w':=
 x5 m hm ao xs cap xs.length g rfl (by omega) (by omega) hcap w hx
theorem vM:(prog.info? 209).map (fun i=>(i.zero,i.size))=some (some (.agg (iv (List.replicate 8 0)).toArray),8):=by kernel_rfl
theorem rL(l:List Int)(h:l.length=8):(prog.info? 209).map (·.size)=some (iv l).toArray.size:=by
 rw[(zero_of_info vM).2,List.size_toArray,mo,h]
theorem Cz(l:List Int):(iv l).toArray.all (·.oneCell')=true:=by
 rw[List.all_toArray,List.all_eq_true];intro v hv;obtain⟨a,_,rfl⟩:=List.mem_map.1 hv;rfl
theorem xr{w:World}{g:Nat}{l:List Int}{T:TypeId}(h:aa w g (iv l) T)(j:Nat)(hj:j<l.length):w.cell? ⟨g,j,none⟩=some (.int .i64 (gi l j)):=h.cell j (og l j hj)
theorem IJ{w:World}{g:Nat}{l:List Int}{T:TypeId}(h:aa w g (iv l) T)(j:Nat)(v:Int):aa (w.setCell ⟨g,j,none⟩ (.int .i64 v)) g (iv (l.set j v)) T:=by
 have:=h.set j (.int .i64 v);rwa [show(iv l).set j (.int .i64 v)=iv (l.set j v)by simp[iv,List.map_set]]at this
theorem oY{ops:Array Oper}{rest:List Oper}{d:Option Tmp}{ty:TypeId}{ps:String}{af:Array Edge}{a:Act}{w:World}{Q:Exit->Act->World->Prop}
  (h:∀w1,aa w1 w.heap.size (iv (List.replicate 8 0)) 209->Below w.heap.size w w1->w.heap.size<w1.heap.size->wpList prog ops Q rest (a.put d (.pointer (some ⟨w.heap.size,0,none⟩))) w1):
  wpList prog ops Q (⟨d,.alloc 209,ty,ps,af,none⟩::rest) a w:=by
 refine wpList_plain rfl fun K hK=>?_;unfold Oper.wp execOp;have z:=(zero_of_info vM).1;have nw:=h _ (aa.new w _ _) (below_alloc w _) (by simp);refine cast ?_ (hK _ _ nw)
 simp[Instr.alloc,Sem.run_bind,z,newVar,Value.cells,go_sem]
theorem py{ops:Array Oper}{rest:List Oper}{d:Option Tmp}{ty:TypeId}{ps:String}{af:Array Edge}{a:Act}{w:World}{Q:Exit->Act->World->Prop}{x y:Operand}
  (g:Nat) (old ys:List Int) (hx:a.eval x=.pointer (some ⟨g,0,none⟩)) (hy:a.eval y=.agg (iv ys).toArray) (hc:aa w g (iv old) 209) (lo:old.length=8) (ly:ys.length=8)
  (h:∀w1,aa w1 g (iv ys) 209->aw g w w1->wpList prog ops Q rest (a.put d undef) w1):
  wpList prog ops Q (⟨d,.store 209 x y,ty,ps,af,none⟩::rest) a w:=
 wpList_store_row rfl _ x y rfl g _ hx hy _ _ hc (rL ys ly) (by simp[mo,lo,ly]) (Cz ys) (h _ (setRow_heap w g _ _ _ _ hc) (aw.row g w _))
theorem DP{ops:Array Oper}{rest:List Oper}{d:Option Tmp}{ty:TypeId}{ps:String}{af:Array Edge}{a:Act}{w:World}{Q:Exit->Act->World->Prop}{x:Operand}
  (g:Nat) (ys:List Int) (hx:a.eval x=.pointer (some ⟨g,0,none⟩)) (hc:aa w g (iv ys) 209) (ly:ys.length=8)
  (h:wpList prog ops Q rest (a.put d (.agg (iv ys).toArray)) w):
  wpList prog ops Q (⟨d,.load 209 x,ty,ps,af,none⟩::rest) a w:=
 wpList_load_row rfl _ x rfl g hx _ _ _ _ hc underlying209 rfl (rL ys ly) h
theorem AQ{fn:Func}{p:Tmp}{w:World}{tmps:Array Value}{u:Tmp}(h:fn.results=#[.cell p 209,.tmp u])(g:Nat)(ys:List Int)(ly:ys.length=8)(hp:tmps.getD p undef=.pointer (some ⟨g,0,none⟩))(hc:aa w g (iv ys) 209):
  (results fn tmps).run prog w=.ok (.tuple #[.agg (iv ys).toArray,tmps.getD u undef]) w:=by
 have hp':tmps[p]?.getD undef=.pointer (some ⟨g,0,none⟩):=by simpa using hp
 have hl:=run_loadVar_row (P:=prog) w g 209 209 (iv ys).toArray (0,0) _ hc underlying209 rfl (rL ys ly);simp[results,h,hp',asAddr,hl]
theorem wU(ao:Option Addr)(ws:List Nat)(cap:Nat)(w:World)(hx:Wd w ao ws)(hf:Fit ws)(hl:ws.length<=8):
  Qq 151 #[.slice ao ws.length cap] w (.tuple #[.agg (iv (fA ws)).toArray,.int .i64 (cntB ws (64*ws.length):Nat)]):=by
 go_enter func151,ntmps151;go_wp2_with (refine oY ?_);intro w1 hc1 hb1 hs1;go_wp2_with (refine oY ?_);intro w2 hc2 hb2 hs2;have hA:Below w.heap.size w w2:=hb1.trans (hb2.mono (by omega))
 have hR:=hc1.kept hb2;have hlt:w.heap.size<w1.heap.size:=hs1;clear hc1 hb1 hs1 hb2 hs2;generalize w1.heap.size=g at *;simp only[Act.put,ae,List.set];go_wp2
 go_loopw [5,9] (fun t s wr=>∃q:Nat,q<=ws.length/\s=.int .i64 q/\t=.int .i64 (cntB ws (64*q):Nat)/\aa wr g (iv (ix ws q)) 209/\aa wr w.heap.size (iv (List.replicate 8 0)) 209/\Below w.heap.size w wr) (fun _ s _=>ws.length-(intOf s).toNat)
 case atStart=>exact⟨0,Nat.zero_le _,rfl,rfl,by rw[JU];exact hc2,hR,hA⟩
 case round=>
  obtain⟨q,hq,rfl,rfl,hc,hr,hb⟩:=hrel;clear hc2 hR hA;by_cases hi:q<ws.length
  .have hi2:(q:Int)<(ws.length:Int):=by omega
   have hi3:(q:Int)<8:=by omega
   obtain⟨b,off,rfl,hbl,hcc⟩:=hx (by omega);have e1:=xr hc q (by rw[jP];omega);have fz:=hc.frozen q;have st:=IJ hc q (cntB ws (64*q):Nat);rw[JV ws q (by omega)]at st
   have hr2:=hr.other (a:=⟨g,q,none⟩) (by show w.heap.size≠g;omega) (.int .i64 (cntB ws (64*q):Nat))
   have hb2:Below w.heap.size w (wr.setCell ⟨g,q,none⟩ (.int .i64 (cntB ws (64*q):Nat))):=hb.setCell (by show w.heap.size<=g;omega) _;have e2:=(hb2.cell (p:=⟨b,off+q,none⟩) hbl).trans (hcc q hi)
   have bd:=eu ws (64*q);have stp:=Ij ws q;have hfq:=hf q;have hp:Hid (dJ (gt ws q:Int)=((cnt (gt ws q) 64:Nat):Int)):=by show dJ (gt ws q:Int)=_;unfold dJ;rw[Int.toNat_natCast]
   have hc64:=dc (gt ws q) 64
   have C:Hid (∀w0,Qx 218 #[.int .u64 (gt ws q:Int)] w0 (.int .i64 ((cnt (gt ws q) 64:Nat):Int))):=by
    intro w0;have:=ny (gt ws q:Int) (Int.natCast_nonneg _) (Int.ofNat_lt.2 hfq) w0;rw[hp.out]at this;exact this
   have HF:Hid (aa (wr.setCell ⟨g,q,none⟩ (.int .i64 (cntB ws (64*q):Nat))) g (iv (ix ws (q+1))) 209/\aa (wr.setCell ⟨g,q,none⟩ (.int .i64 (cntB ws (64*q):Nat))) w.heap.size (iv (List.replicate 8 0)) 209/\Below w.heap.size w (wr.setCell ⟨g,q,none⟩ (.int .i64 (cntB ws (64*q):Nat)))):=⟨st,hr2,hb2⟩
   have HS:Hid (cntB ws (64*(q+1))=cntB ws (64*q)+cnt (gt ws q) 64):=stp;clear st hr2 hb2 hc hr hb hcc hp stp;generalize cnt (gt ws q) 64=D at *;generalize cntB ws (64*q)=Z at *;go_wp2_with fail
   refine(C.out _).mono ?_;rintro e w4 ⟨rfl,rfl⟩;go_wp2;refine⟨⟨q+1,by omega,by go_num,?_,HF.out⟩,by simp only[intOf];omega⟩;rw[HS.out];go_num
  .obtain rfl:q=ws.length:=by omega
   have HB:Hid (Below w.heap.size w wr):=hb;clear hb hx;go_wp2_with (first | refine DP g _ rfl hc (jP _ _) ?_ | refine py w.heap.size _ _ rfl rfl hr (by simp) (jP _ _) ?_);intro w5 hc5 hb5
   have HC:Hid (aa w5 w.heap.size (iv (fA ws)) 209):=hc5;have HB5:Hid (Below w.heap.size w w5):=HB.out.trans (hb5.below (Nat.le_refl _));clear hc5 hb5 hc hr;go_wp2
   (try simp only[Exit.inBlock,Exit.then]);exact bodyPost_ret (AQ rfl w.heap.size (fA ws) (kD ws) rfl HC.out) rfl ⟨rfl,HB5.out⟩
theorem FB:(prog.info? 81).map (fun i=>(i.zero,i.size,i.bytes))=some (some (.int .u64 0),1,8):=by kernel_rfl
def jK(ys:List Nat):List Value:=ys.map fun y:Nat=>Value.int .u64 (y:Int)
theorem qr(ys:List Nat):(jK ys).length=ys.length:=by simp[jK]
theorem tV(l:List Nat)(i:Nat)(h:i<l.length):(jK l)[i]?=some (.int .u64 (gt l i)):=by
 unfold jK;rw[List.getElem?_map,gt_get l i h];rfl
theorem yb{w:World}{base n c:Nat}{ao:Option Addr}{l:List Nat}(h:w.ownsRow base 81 1 (.slice ao n c) n (jK l)):Wd w ao l:=by
 intro h0;have hlen:(jK l).length=n*1:=h.1;rw[qr]at hlen;have hk:=fun k hk=>h.lt k hk;have hc:=fun g hg=>h.cells (g:=g) hg;obtain⟨_,⟨e,e2⟩ | ⟨g,cap,cur,e,_⟩⟩:=h
 .omega
 .simp only[Value.slice.injEq]at e;obtain⟨rfl,_,rfl⟩:=e;refine⟨g,0,rfl,(hk g rfl).2,fun i hi=>?_⟩;rw[<-hc g rfl i _ (tV l i hi)];unfold Addr.add;split
  .subst_vars;rfl
  .simp
theorem wO(a:Option Addr)(l c:Nat)(w:World):(binOp .eql 31 (.slice a l c) (.slice none 0 0)).run prog w=.ok (.bool a.isNone) w:=by
 simp only[binOp];simp[run_equal_slice_nil w 31 81 a l c underlying31]
theorem Io(ao:Option Addr)(xs:List Nat)(cap:Nat)(w:World)(hx:Wd w ao xs)(hl:xs.length<=1048576):
  Calls prog 217 #[.slice ao xs.length cap] w fun e w'=>∃bo bc,e=.returned (.slice bo xs.length bc)/\Wd w' bo xs/\xs.length<=bc/\Below w.heap.size w w':=by
 cases ao with
 | none=>
  have h0:xs=[]:=by
   cases xs with
   | nil=>rfl
   | cons a t=>
    obtain⟨b,off,e,_⟩:=hx (by simp);cases e
  subst h0;have hq:=wO none 0 cap;have hq2:(none:Option Addr).isNone=true:=rfl;go_enter func217,ntmps217;go_wp2;go_ret;exact⟨none,0,rfl,dW _ _,Nat.le_refl _,Below.refl _ _⟩
 | some a=>
  obtain⟨i0,hi,hz0,hz1,hz2⟩:=info_parts FB;have hq:=wO (some a) xs.length cap;have hq2:(some a).isNone=false:=rfl;go_enter func217,ntmps217
  go_wp2_with (at_builtin;refine Ap.wpList_append_u (by rfl) _ _ _ (by rfl) w.heap.size 81 i0 (.int .u64 0) 8 underlying31 hi hz0 hz1 hz2 rfl (.slice (some ⟨w.heap.size,0,none⟩) 0 0) 0 [] (by rfl) ?c0 (some a) xs.length cap (jK xs) (by rfl) (qr xs) ?c1 ?c2 ?c3 ?c4 ?c5 ?_)
  case c0=>
   exact⟨rfl,.inr ⟨w.heap.size,0,#[],rfl,Nat.le_refl _,aa.new w [] 81,Nat.le_refl _,by simp⟩⟩
  case c1=>
   intro h0;refine⟨a,rfl,fun j u hj=>?_⟩;obtain⟨b,off,e,hlt,hc⟩:=hx h0;obtain rfl:=Option.some.inj e
   have hjl:j<xs.length:=by
    have:=(List.getElem?_eq_some_iff.1 hj).1;rw[qr]at this;exact this
   rw[tV xs j hjl]at hj;obtain rfl:=Option.some.inj hj;rw[show(Addr.add ⟨b,off,none⟩ j)=⟨b,off+j,none⟩by unfold Addr.add;split<;>(try subst_vars)<;>rfl]
   rw[(below_alloc w _).cell (p:=⟨b,off+j,none⟩) hlt];exact hc j hjl
  case c2=>intro u hu;obtain⟨y,_,rfl⟩:=List.mem_map.1 hu;rfl
  case c3=>unfold maxLen;omega
  case c4=>omega
  case c5=>simp
  intro bo bc w1 hown hle hb;have hB:Below w.heap.size w w1:=(below_alloc w _).trans hb;have hW:=yb hown;have HF:Hid (Wd w1 bo xs/\xs.length<=bc/\Below w.heap.size w w1):=⟨hW,hle,hB⟩
  clear hown hb hW hB hx hq hi hz0 hz1 hz2;go_wp2;go_ret;exact⟨bo,bc,rfl,HF.out⟩
theorem Ac(n:Nat)(hn:n<=1048576)(c1 c2 c3:Addr)(p:Nat->Bool)(w:World)
  (hf:Hid (∀(i:Nat) w0,i<n->Below w.heap.size w w0->Qq 252 #[.int .i64 i,.pointer (some c1),.pointer (some c2),.pointer (some c3)] w0 (.bool (p i)))) (hp:Hid (∀i j,i<=j->p i=true->p j=true)):
  Calls prog 251 #[.int .i64 n,.func (.func 252) #[] #[.pointer (some c1),.pointer (some c2),.pointer (some c3)]] w fun e w'=>∃j:Nat,e=.returned (.int .i64 j)/\j<=n/\(∀i,i<j->p i=false)/\(∀i,j<=i->i<n->p i=true)/\Below w.heap.size w w':=by
 go_enter func251,ntmps251;go_wp2
 go_loopw [5,6] (fun s t wr=>∃i j:Nat,i<=j/\j<=n/\s=.int .i64 i/\t=.int .i64 j/\Hid (∀q,q<i->p q=false)/\Hid (∀q,j<=q->q<n->p q=true)/\Below w.heap.size w wr) (fun s t _=>(intOf t).toNat-(intOf s).toNat)
 case atStart=>exact⟨0,n,by omega,by omega,rfl,rfl,fun q hq=>absurd hq (by omega),fun q h1 h2=>absurd h1 (by omega),Below.refl _ _⟩
 case round=>
  obtain⟨i,j,hij,hj,rfl,rfl,H1,H2,hw⟩:=hrel;by_cases hlt:i<j
  .have hlt2:(i:Int)<(j:Int):=by omega
   have hm:(((i+j)/2:Nat):Int)=((i:Int)+(j:Int))/2:=by omega
   have C:Hid (Qq 252 #[.int .i64 (((i:Int)+(j:Int))/2),.pointer (some c1),.pointer (some c2),.pointer (some c3)] wr (.bool (p ((i+j)/2)))):=by
    have:=hf.out ((i+j)/2) wr (by omega) hw;rw[hm]at this;exact this
   have mu:IntKind.i64.wrap (((i:Int)+(j:Int))/2+1)=((i:Int)+(j:Int))/2+1:=by rw[IntKind.wrap_i64];omega
   clear hf;go_wp2_with fail;refine C.out.mono ?_;rintro e w1 ⟨rfl,hb⟩;have hw1:=bg hw hb;clear hb C;cases hq:p ((i+j)/2)with
   | true=>
    go_wp2;refine⟨⟨i,(i+j)/2,by omega,by omega,rfl,by rw[hm],H1,?_,hw1⟩,by simp only[intOf];omega⟩;intro q h1 h2;exact hp.out _ _ h1 hq
   | false=>
    go_wp2;refine⟨⟨(i+j)/2+1,j,by omega,by omega,by rw[<-hm];rfl,rfl,?_,H2,hw1⟩,by simp only[intOf];omega⟩;intro q h1;cases hq2:p q with
    | false=>rfl
    | true=>
     have:=hp.out q ((i+j)/2) (by omega) hq2;rw[hq]at this;exact this.symm
  .have hlt2:¬(i:Int)<(j:Int):=by omega
   go_wp2;go_ret;exact⟨i,rfl,by omega,H1.out,fun q h1 h2=>H2.out q (by omega) h2,hw⟩
def Kd(N:Int)(xs:List Nat)(w:World)(e:Ending)(w':World):Prop:=∃bo bc,e=.returned (.agg #[.int .i64 N,.slice bo xs.length bc])/\Wd w' bo xs/\xs.length<=bc/\Below w.heap.size w w'
theorem ug(N:Int)(ao:Option Addr)(xs:List Nat)(cap:Nat)(w:World)(hx:Wd w ao xs)(hl:xs.length<=1048576):
  Calls prog 148 #[.agg #[.int .i64 N,.slice ao xs.length cap]] w (Kd N xs w):=by
 go_enter func148,ntmps148;go_wp2;obtain⟨W,hW⟩:∃W,W=(w.alloc (.cells #[.int .i64 N,.slice ao xs.length cap] 33)).alloc (.cells #[.int .i64 0,.slice none 0 0] 33):=⟨_,rfl⟩;have bW:=cW hW;have B1:=eV hW
 have B2:=dF hW;rw[<-hW];clear hW;refine aB [6] (fun w'=>aa w' w.heap.size [.int .i64 N,.slice ao xs.length cap] 33/\aa w' (w.heap.size+1) [.int .i64 0,.slice none 0 0] 33) (by kernel_rfl) ?_
 have hS:aa W.drew w.heap.size [.int .i64 N,.slice ao xs.length cap] 33/\aa W.drew (w.heap.size+1) [.int .i64 0,.slice none 0 0] 33:=⟨B1,B2⟩;have bW2:Below w.heap.size w W.drew:=bW.drew;generalize W.drew=V at *
 clear B1 B2 bW;refine aK 0 hS ?_;refine aF 1 hS rfl (fun w0 h0=>by have c0:=h0.1.cell 0 rfl;go_simp;try with_reducible rfl) ?_;refine aK 2 hS ?_
 refine aF 3 hS rfl (fun w0 h0=>by have c1:=h0.1.cell 1 rfl;go_simp;try with_reducible rfl) ?_;refine aO 4 ?_;intro K hK;go_simp;refine(Io _ _ _ _ (hx.keep bW2) hl).mono ?_
 rintro e w2 ⟨bo,bc,rfl,hO,hle,hb⟩;have hS2:=And.intro (hS.1.kept hb) (hS.2.kept hb);have bw2:=bg bW2 hb;refine hK.out _ _ (fun _=>hS2) ?_;clear hK K;try simp only[Act.put,ae,ah,ag]
 refine aK 5 hS2 ?_;refine aO 6 ?_;intro K hK;have x0:=hS2.2.cell 0 rfl;have x1:=hS2.2.cell 1 rfl;have f0:=hS2.2.frozen 0;have f1:=hS2.2.frozen 1;go_simp;refine hK.out _ _ (fun h=>absurd (by decide) h) ?_
 clear hK K;try simp only[Act.put,ae,ah,ag]
 refine aq.done (by kernel_rfl) ?_ _;have hC:=(hS2.2.set 0 (.int .i64 N)).set 1 (.slice bo xs.length bc)
 have oW:aw (w.heap.size+1) w2 ((w2.setCell ⟨w.heap.size+1,0,none⟩ (.int .i64 N)).setCell ⟨w.heap.size+1,1,none⟩ (.slice bo xs.length bc)):=((aw.refl _ _).set 0 _).set 1 _
 have hW2:=oW.wd hO (hO.apart hS2.2 (by intro v hv n;simp at hv;rcases hv with rfl | rfl<;>simp))
 have HF:Hid (Wd ((w2.setCell ⟨w.heap.size+1,0,none⟩ (.int .i64 N)).setCell ⟨w.heap.size+1,1,none⟩ (.slice bo xs.length bc)) bo xs/\xs.length<=bc/\Below w.heap.size w ((w2.setCell ⟨w.heap.size+1,0,none⟩ (.int .i64 N)).setCell ⟨w.heap.size+1,1,none⟩ (.slice bo xs.length bc))):=⟨hW2,hle,bw2.trans (oW.below (Nat.le_succ _))⟩
 have k0:=hC.cell 0 rfl;have k1:=hC.cell 1 rfl;clear hW2 oW hC hO hle bw2 hS2 hS hb bW2 x0 x1 f0 f1;go_wp2
 exact bodyPost_ret (v:=.agg #[.int .i64 N,.slice bo xs.length bc]) (by simp[results,Tryz.results148,go_sem,k0,k1]) rfl ⟨bo,bc,rfl,HF.out⟩
def Ke(m:Nat)(xs:List Nat)(w:World)(e:Ending)(w':World):Prop:=∃bo bc so sc tO tc,e=.returned (.tuple #[.agg #[.int .i64 (m:Int),.slice bo xs.length bc,.slice so (supL (m:Int) xs).length sc,.slice tO (subL (m:Int) xs).length tc],.int .i64 0])/\lp w.heap.size w' bo xs bc so (supL (m:Int) xs) sc tO (subL (m:Int) xs) tc/\Below w.heap.size w w'
structure PB (w3 wr:World) (m n:Nat) (bo:Option Addr) (bc:Nat) (sv tv:Value) (G T:Nat) (xs:List Nat):Prop where
 bx:aa wr w3.heap.size [.int .i64 (m:Int),.slice bo n bc,sv,tv] 36
 hb:Below w3.heap.size w3 wr
 o1:wr.ownsRow (w3.heap.size+1) 3 1 sv G (iv (dX (m:Int) xs G))
 o2:wr.ownsRow (w3.heap.size+1) 3 1 tv T (iv (dG (m:Int) xs T))
 ap:Ap.Apart sv tv
theorem PB.keep{w3 wr w':World}{m n:Nat}{bo:Option Addr}{bc:Nat}{sv tv:Value}{G T:Nat}{xs:List Nat}(h:PB w3 wr m n bo bc sv tv G T xs)(hb:Below wr.heap.size wr w'):PB w3 w' m n bo bc sv tv G T xs:=
 ⟨h.bx.kept hb,h.hb.trans (hb.mono h.hb.size),Ap.owns_below h.o1 hb,Ap.owns_below h.o2 hb,h.ap⟩
theorem PB.sup{w3 wr w2:World}{m n:Nat}{bo:Option Addr}{bc:Nat}{sv tv u:Value}{G T:Nat}{xs:List Nat}(h:PB w3 wr m n bo bc sv tv G T xs)(ho:w2.ownsRow (w3.heap.size+1) 3 1 u (G+1) (iv (dX (m:Int) xs (G+1))))(hB:Below (w3.heap.size+1) wr w2)
  (hblk:∀k,u.ownBlock=some k->(sv.ownBlock=some k\/k=wr.heap.size)/\k<w2.heap.size) (hkeep:∀k,k<wr.heap.size->sv.ownBlock≠some k->w2.heap[k]?=wr.heap[k]?):
  PB w3 (w2.setCell ⟨w3.heap.size,2,none⟩ u) m n bo bc u tv (G+1) T xs:=
 ⟨(h.bx.keep hB (Nat.lt_succ_self _)).set 2 u,(h.hb.trans (hB.mono (Nat.le_succ _))).setCell (Nat.le_refl _) _,nD ho (Nat.lt_succ_self _),nD (Ap.owns_other h.o2 hkeep h.ap.symm) (Nat.lt_succ_self _),(Ap.apart_new h.o2 hblk h.ap.symm).symm⟩
theorem PB.sub{w3 wr w2:World}{m n:Nat}{bo:Option Addr}{bc:Nat}{sv tv u:Value}{G T T2:Nat}{xs:List Nat}(h:PB w3 wr m n bo bc sv tv G T xs)(ho:w2.ownsRow (w3.heap.size+1) 3 1 u T2 (iv (dG (m:Int) xs T2)))(hB:Below (w3.heap.size+1) wr w2)
  (hblk:∀k,u.ownBlock=some k->(tv.ownBlock=some k\/k=wr.heap.size)/\k<w2.heap.size) (hkeep:∀k,k<wr.heap.size->tv.ownBlock≠some k->w2.heap[k]?=wr.heap[k]?):
  PB w3 (w2.setCell ⟨w3.heap.size,3,none⟩ u) m n bo bc sv u G T2 xs:=
 ⟨(h.bx.keep hB (Nat.lt_succ_self _)).set 3 u,(h.hb.trans (hB.mono (Nat.le_succ _))).setCell (Nat.le_refl _) _,nD (Ap.owns_other h.o1 hkeep h.ap) (Nat.lt_succ_self _),nD ho (Nat.lt_succ_self _),Ap.apart_new h.o1 hblk h.ap⟩
theorem Fh(l k:List Int):iv l++iv k=iv (l++k):=by simp[iv]
theorem Ch(m:Nat)(ao:Option Addr)(xs:List Nat)(cap:Nat)(w:World)(hx:Wd w ao xs)(hf:Fit xs)(hcap:xs.length<=cap)(hk:ar (m:Int) xs=true)(hm:m<=1048576)(hl:xs.length=(m+63)/64):
  Calls prog 91 #[.agg #[.int .i64 (m:Int),.slice ao xs.length cap]] w (Ke m xs w):=by
 have hlx:xs.length<=16384:=by omega
 obtain⟨i0,hi,hz0,hz1,hz2⟩:=info_parts Tryz.info3
 obtain⟨W,hW⟩:∃W,W=(w.alloc (.cells #[.int .i64 (m:Int),.slice ao xs.length cap] 33)).alloc (.cells #[.int .i64 0,.slice none 0 0,.slice none 0 0,.slice none 0 0] 36):=⟨_,rfl⟩;have bW:=cW hW;have B1:=eV hW
 have B2:=dF hW
 have C1:Hid (∀w0,w0=W->Qq 147 #[.agg #[.int .i64 (m:Int),.slice ao xs.length cap]] w0 (.bool true)):=fun w0 h=>by
  subst h;have:=bi (m:Int) ao xs cap w0 (hx.keep bW);rw[hk]at this;exact this
 have C2:Hid (∀w0,Below w.heap.size w w0->Calls prog 148 #[.agg #[.int .i64 (m:Int),.slice ao xs.length cap]] w0 fun e w'=>∃bo bc,e=.returned (.agg #[.int .i64 (m:Int),.slice bo xs.length bc])/\Wd w' bo xs/\xs.length<=bc/\Below w0.heap.size w0 w'):=fun w0 h=>ug (m:Int) ao xs cap w0 (hx.keep h) (by omega)
 have C3:Hid (∀w0,Qq 149 #[.agg #[.int .i64 (m:Int),.slice ao xs.length cap]] w0 (.int .i64 ((m/512+1:Nat):Int))):=fun w0=>wi m hm ao xs.length cap w0
 have C4:Hid (∀(G:Nat) w0,G<=m/512->Below w.heap.size w w0->Calls prog 150 #[.agg #[.int .i64 (m:Int),.slice ao xs.length cap],.int .i64 (G:Int)] w0 fun e w'=>∃bo bc,e=.returned (.slice bo (aA xs G).length bc)/\Wd w' bo (aA xs G)/\Below w0.heap.size w0 w'):=fun G w0 hG h=>r_ m hm ao xs cap hl hcap G hG w0 (hx.keep h)
 obtain⟨M,hM⟩:∃M,Hid (M=m/512+1):=⟨_,rfl⟩;rw[<-hM.out]at C3;have hMb:M<=2049:=by have:=hM.out;omega
 have HL:Hid (xs.length=(m+63)/64):=hl;clear hl;go_enter func91,ntmps91;go_wp2_with fail;rw[<-hW];refine mr (C1.out _ rfl) fun w1 hb=>?_;have bw1:=bg bW hb
 replace B1:=B1.kept hb;replace B2:=B2.kept hb;clear hb C1 hW bW W;have r0:=B1.cell 0 rfl;have r1:=B1.cell 1 rfl;go_wp2_with fail;refine(C2.out _ bw1).mono ?_;rintro e w3 ⟨bo,bc,rfl,hW3,hbc,hb⟩
 have bw3:=bg bw1 hb;replace B1:=B1.kept hb;replace B2:=B2.kept hb;clear hb bw1 r0 r1 C2;have r0:=B1.cell 0 rfl;have r1:=B1.cell 1 rfl;have hlt0:=B2.lt
 have s0:=(B1.alloc (.cells #[.int .i64 (m:Int),.slice bo xs.length bc,.slice none 0 0,.slice none 0 0] 36)).cell 0 rfl
 have s1:=(B1.alloc (.cells #[.int .i64 (m:Int),.slice bo xs.length bc,.slice none 0 0,.slice none 0 0] 36)).cell 1 rfl
 obtain⟨V,hV⟩:∃V,V=w3.alloc (.cells #[.int .i64 (m:Int),.slice bo xs.length bc,.slice none 0 0,.slice none 0 0] 36):=⟨_,rfl⟩
 have P0:PB w3 V m xs.length bo bc (.slice none 0 0) (.slice none 0 0) 0 0 xs:=by
  rw[hV];exact⟨aa.new w3 _ _,below_alloc w3 _,World.ownsRow_nil _ _ _ _,World.ownsRow_nil _ _ _ _,Ap.apart_nil _⟩
 clear r0 r1;go_wp2_with fail;rw[<-hV];refine mr (C3.out _) fun w4 hb=>?_;replace P0:=P0.keep hb;clear hb hV s0 s1 C3 V;go_wp2
 go_loopw [5,19] (fun t s wr=>∃(G T:Nat) (so:Option Addr) (sc:Nat) (tO:Option Addr) (tc:Nat),G<=M/\s=.int .i64 G/\t=.int .i64 (cntB xs (512*G):Nat)/\Hid (T=min (8*G) xs.length)/\G<=sc/\T<=tc/\PB w3 wr m xs.length bo bc (.slice so G sc) (.slice tO T tc) G T xs) (fun _ s _=>M-(intOf s).toNat)
 case atStart=>exact⟨0,0,none,0,none,0,Nat.zero_le _,rfl,rfl,(by show 0=min (8*0) xs.length;omega),Nat.le_refl _,Nat.le_refl _,P0⟩
 case round=>
  obtain⟨G,T,so,sc,tO,tc,hG,rfl,rfl,HT,hsc,htc,HP⟩:=hrel;clear P0;have B1r:=B1.kept HP.hb;have q0:=B1r.cell 0 rfl;have q1:=B1r.cell 1 rfl;have bwr:=bw3.trans (HP.hb.mono bw3.size);by_cases hlt:G<M
  .have hlt2:(G:Int)<(M:Int):=by omega
   have hG2:G<=m/512:=by have:=hM.out;omega
   go_wp2_with fail;refine(C4.out G _ hG2 bwr).mono ?_;rintro e w5 ⟨wo,wc,rfl,hww,hb⟩;have HP5:=HP.keep hb;clear hb
   have C5:Hid (∀w0,w0=w5->Qq 151 #[.slice wo (aA xs G).length wc] w0 (.tuple #[.agg (iv (fA (aA xs G))).toArray,.int .i64 (cntB (aA xs G) (64*(aA xs G).length):Nat)])):=fun w0 h=>by subst h;exact wU wo (aA xs G) wc w0 hww (wI xs hf G) (by rw[dB];omega)
   have hall:=xe xs G;have hc8:(aA xs G).length<=8:=by rw[dB];omega
   have hTT:T=8*G:=by have:=HT.out;have:=HL.out;omega
   have HT2:Hid (T+(aA xs G).length=min (8*(G+1)) xs.length):=by
    show T+(aA xs G).length=min (8*(G+1)) xs.length;rw[dB];have:=HT.out;omega
   have HSP:Hid (iv (dG (m:Int) xs T)++iv (ahT xs G)=iv (dG (m:Int) xs (T+(aA xs G).length))):=by
    show iv (dG (m:Int) xs T)++iv (ahT xs G)=iv (dG (m:Int) xs (T+(aA xs G).length));rw[Fh,hTT,yL m xs hk HL.out G (by have:=HL.out;omega)]
   have HSU:Hid (iv (dX (m:Int) xs G)++[.int .i64 (cntB xs (512*G):Nat)]=iv (dX (m:Int) xs (G+1))):=by
    show iv (dX (m:Int) xs G)++[.int .i64 (cntB xs (512*G):Nat)]=iv (dX (m:Int) xs (G+1));rw[Fg,yC,mY m xs hk G hG2]
   have HA:Hid (∀(j:Nat) (u:Value),(iv (ahT xs G))[j]?=some u->(iv (fA (aA xs G)))[j]?=some u):=by
    intro j u hj
    have hjl:j<(ahT xs G).length:=by
     have:=(List.getElem?_eq_some_iff.1 hj).1;rw[mo]at this;exact this
    rw[og _ j hjl]at hj;rw[jO]at hjl;rw[og _ j (by rw[kD];omega),<-hj];unfold ahT;rw[kR _ _ _ hjl]
   have HlT:Hid ((iv (ahT xs G)).length=(aA xs G).length):=by show(iv (ahT xs G)).length=(aA xs G).length;rw[mo,jO]
   have HO1:Hid (∀u∈iv (ahT xs G),u.oneCell'=true):=fun u hu=>by obtain⟨y,_,rfl⟩:=List.mem_map.1 hu;rfl
   have lD:=kD (aA xs G);have bZ:=eu xs (512*G);have bA:=eu (aA xs G) (64*(aA xs G).length);have hTb:T<=16384:=by omega
   have hGb:G<=2048:=by omega
   clear hTT;go_wp2_with fail;refine mr (C5.out _ rfl) fun w6 hb=>?_;have HP6:=HP5.keep hb;clear hb C5;obtain⟨D,hD⟩:∃D,Hid (D=fA (aA xs G)):=⟨_,rfl⟩;rw[<-hD.out]at lD HA⊢
   obtain⟨A,hA⟩:∃A,A=cntB (aA xs G) (64*(aA xs G).length):=⟨_,rfl⟩;rw[<-hA]at hall bA⊢;obtain⟨Z,hZ⟩:∃Z,Z=cntB xs (512*G):=⟨_,rfl⟩;rw[<-hZ]at hall bZ HSU⊢
   obtain⟨c,hc⟩:∃c,c=(aA xs G).length:=⟨_,rfl⟩;rw[<-hc]at hc8 bA HT2 HSP HlT⊢;have HALL:Hid (cntB xs (512*(G+1))=Z+A):=hall;clear hall hA hZ hc HT hww HP5;go_wp2_with (refine oY ?_)
   intro w7 hc7 hb7 hs7;go_wp2_with (refine py w6.heap.size _ _ rfl rfl hc7 (by simp) lD ?_);intro w8 hC8 ho8;have HP8:=HP6.keep (hb7.trans (ho8.below (Nat.le_refl _)))
   have hga:w6.heap.size<w8.heap.size:=by rw[ho8.size];exact hs7
   have hown1:∀k,(Value.slice so G sc).ownBlock=some k->k<w6.heap.size:=fun k hk=>(HP6.o1.lt k hk).2;have hgg:w3.heap.size<w6.heap.size:=HP6.bx.lt;clear hb7 hs7 hc7 ho8 HP6 w7;generalize w6.heap.size=ga at *
   have x2:=(HP8.bx.alloc (.cells #[.int .i64 (Z:Int)] 3)).cell 2 rfl;have x2b:=HP8.bx.cell 2 rfl;simp only[Act.put,ae,List.set]
   go_wp2_with (at_builtin;refine Ap.wpList_append_x (by rfl) _ _ _ (by rfl) (w3.heap.size+1) 3 i0 (.int .i64 0) 8 underlying24 hi hz0 hz1 hz2 rfl (.slice so G sc) G (iv (dX (m:Int) xs G)) (by rfl) (HP8.o1.alloc _) (some ⟨w8.heap.size,0,none⟩) 1 1 [.int .i64 (Z:Int)] (by rfl) rfl ?c1 ?c2 ?c3 ?c4 ?c5 ?_)
   case c1=>exact fun _=>⟨_,rfl,fun j u hj=>by
    match j,hj with
    | 0,hj=>simp at hj;subst hj;simp[Addr.add]⟩
   case c2=>intro u hu;simp at hu;subst hu;rfl
   case c3=>unfold maxLen;omega
   case c4=>omega
   case c5=>have:=HP8.bx.lt;simp;omega
   intro so2 sc2 w9 own9 hle9 hB9 hblk9 hkeep9 hsz9;rw[HSU.out]at own9;have HPa:=HP8.keep (below_alloc w8 (.cells #[.int .i64 (Z:Int)] 3))
   have esz:(w8.alloc (.cells #[.int .i64 (Z:Int)] 3)).heap.size=w8.heap.size+1:=by simp
   rw[<-esz]at hblk9 hkeep9;have HP9:=HPa.sup own9 hB9 hblk9 hkeep9;have hC9:aa w9 ga (iv D) 209:=(hkeep9 ga (by omega) (fun e=>by have:=hown1 ga e;omega)).trans (hC8.alloc (.cells #[.int .i64 (Z:Int)] 3))
   have hCa:=hC9.other (a:=⟨w3.heap.size,2,none⟩) (by show ga≠w3.heap.size;omega) (.slice so2 (G+1) sc2);have hga2:ga<(w9.setCell ⟨w3.heap.size,2,none⟩ (.slice so2 (G+1) sc2)).heap.size:=hCa.lt
   have xx2:=(HPa.bx.keep hB9 (Nat.lt_succ_self _)).cell 2 rfl;have ff2:=(HPa.bx.keep hB9 (Nat.lt_succ_self _)).frozen 2;clear esz own9 hB9 hblk9 hkeep9 hsz9 HPa hC9 HP8 hC8 x2 x2b hown1;go_wp2
   generalize (w9.setCell ⟨w3.heap.size,2,none⟩ (.slice so2 (G+1) sc2))=X at *
   refine aB [7] (fun w'=>aa w' w3.heap.size [.int .i64 (m:Int),.slice bo xs.length bc,.slice so2 (G+1) sc2,.slice tO T tc] 36) (by kernel_rfl) ?_
   have hPd:PB w3 X.drew m xs.length bo bc (.slice so2 (G+1) sc2) (.slice tO T tc) (G+1) T xs:=⟨HP9.bx,HP9.hb.drew,HP9.o1,HP9.o2,HP9.ap⟩;have hCd:aa X.drew ga (iv D) 209:=hCa;have hS:=hPd.bx
   have c1:(c:Int)<=8:=by omega
   clear HP9 hCa;generalize X.drew=Y at *;refine aK 0 hS ?_;refine aF 1 hS rfl (fun w0 h0=>by have c3:=h0.cell 3 rfl;go_simp;try with_reducible rfl) ?_;refine aK 2 hS ?_;refine aK 3 hS ?_
   refine aK 4 hS ?_;refine aO 5 ?_;intro K hK
   refine Ap.step_append_u (by rfl) _ _ _ (by rfl) (w3.heap.size+1) 3 i0 (.int .i64 0) 8 underlying24 hi hz0 hz1 hz2 rfl (.slice tO T tc) T (iv (dG (m:Int) xs T)) (by rfl) hPd.o2 (some ⟨ga,0,none⟩) c 8 (iv (ahT xs G)) (by rfl) HlT.out ?d1 HO1.out ?d3 ?d4 ?d5 ?d6
   case d1=>exact fun _=>⟨_,rfl,fun j u hj=>by
     have:=hCd.cell j (HA.out j u hj);rw[<-this];unfold Addr.add;split
     .subst_vars;rfl
     .simp⟩
   case d3=>unfold maxLen;omega
   case d4=>omega
   case d5=>have:=hPd.bx.lt;omega
   intro to2 tc2 wa own_a hle_a hB_a hblk_a hkeep_a hsz_a;rw[HSP.out]at own_a;have HPb:=hPd.sub own_a hB_a hblk_a hkeep_a;have hS2:=hPd.bx.keep hB_a (Nat.lt_succ_self _);refine hK.out _ _ (fun _=>hS2) ?_;clear hK K
   try simp only[Act.put,ak,aj,ai,ae,ah,ag]
   refine aK 6 hS2 ?_;refine aO 7 ?_;intro K hK;have z3:=hS2.cell 3 rfl;have fz3:=hS2.frozen 3;go_simp;refine hK.out _ _ (fun h=>absurd (by decide) h) ?_;clear hK K
   try simp only[Act.put,ak,aj,ai,ae,ah,ag]
   refine aq.done (by kernel_rfl) ?_ _;clear hS2 hPd hCd hS own_a hB_a hblk_a hkeep_a hsz_a z3 fz3;go_wp2
   refine⟨⟨G+1,T+c,so2,sc2,to2,tc2,by omega,by go_num,?_,HT2,by omega,by omega,HPb⟩,by simp only[intOf];omega⟩;rw[HALL.out];go_num
  .obtain rfl:G=M:=by omega
   have hlt2:¬(G:Int)<(G:Int):=by omega
   have eS:dX (m:Int) xs G=supL (m:Int) xs:=by unfold supL;rw[Int.toNat_natCast,hM.out]
   have eT:T=xs.length:=by have:=HT.out;have:=HL.out;have:=hM.out;omega
   subst eT;have lS:(supL (m:Int) xs).length=G:=by rw[mi,Int.toNat_natCast];exact hM.out.symm
   have B2r:=B2.kept HP.hb;have x0:=HP.bx.cell 0 rfl;have x1:=HP.bx.cell 1 rfl;have x2:=HP.bx.cell 2 rfl;have x3:=HP.bx.cell 3 rfl;have y0:=B2r.cell 0 rfl;have y1:=B2r.cell 1 rfl;have y2:=B2r.cell 2 rfl
   have y3:=B2r.cell 3 rfl;have f0:=B2r.frozen 0;have f1:=B2r.frozen 1;have f2:=B2r.frozen 2;have f3:=B2r.frozen 3
   have hC:=(((B2r.set 0 (.int .i64 (m:Int))).set 1 (.slice bo xs.length bc)).set 2 (.slice so G sc)).set 3 (.slice tO xs.length tc)
   have oW:=((((aw.refl (w.heap.size+1) wr).set 0 (.int .i64 (m:Int))).set 1 (.slice bo xs.length bc)).set 2 (.slice so G sc)).set 3 (.slice tO xs.length tc);have hWr:=hW3.keep HP.hb
   have hWd:=oW.wd hWr (hWr.apart B2r (by intro v hv n;simp at hv;rcases hv with rfl | rfl<;>simp));have n1:=uy (oW.owns HP.o1 (by omega));have n2:=uy (oW.owns HP.o2 (by omega));rw[eS]at n1
   have HB:=bwr.trans (oW.below (Nat.le_succ _));have k0:=hC.cell 0 rfl;have k1:=hC.cell 1 rfl;have k2:=hC.cell 2 rfl;have k3:=hC.cell 3 rfl
   have F1:Fr w.heap.size so:=je HP.o1 (by have:=bwr.size;have:=HP.bx.lt;omega);have F2:Fr w.heap.size tO:=je HP.o2 (by have:=bwr.size;have:=HP.bx.lt;omega)
   have HF:=And.intro hWd (And.intro n1 (And.intro n2 (And.intro HB (And.intro F1 F2))));replace HF:=Hid.mk' HF;have lT:=jM (m:Int) xs;clear F1 F2 hWd n1 n2 HB oW hWr HP hC B2r B1r HT q0 q1;go_wp2
   refine bodyPost_ret (v:=.tuple #[.agg #[.int .i64 (m:Int),.slice bo xs.length bc,.slice so G sc,.slice tO xs.length tc],.int .i64 0]) (by simp[results,Tryz.results91,go_sem,k0,k1,k2,k3]) rfl ?_
   refine⟨bo,bc,so,sc,tO,tc,by rw[lS,lT],⟨HF.out.1,hbc,HF.out.2.1,by rw[lS];exact hsc,HF.out.2.2.1,by rw[lT];exact htc,HF.out.2.2.2.2.1,HF.out.2.2.2.2.2⟩,HF.out.2.2.2.1⟩
theorem wM(ao:Option Addr)(l:List Int)(n cap:Nat)(hn:n=l.length)(bo:Option Addr)(m:List Int)(k dap:Nat)(hk:k=m.length)(w:World)(hx:Nd w ao l)(hy:Nd w bo m)(hl:l.length<=1048576):
  Qq 100 #[.slice ao n cap,.slice bo k dap] w (.bool (decide (l=m))):=by
 subst hn hk;by_cases h2:l.length=m.length
 .have h2':((l.length:Int) != (m.length:Int))=false:=by simp[h2]
  have H2:Hid (l.length=m.length):=h2;have h3:l.length<=m.length:=by omega
  clear h2;go_enter func100,ntmps100;go_wp2;go_loopw [13] (fun i wr=>∃k:Nat,k<=l.length/\i=.int .i64 k/\Hid (∀j,j<k->gi l j=gi m j)/\Below w.heap.size w wr) (fun i _=>l.length-(intOf i).toNat)
  case atStart=>exact⟨0,by omega,rfl,fun j hj=>absurd hj (by omega),Below.refl _ _⟩
  case round=>
   obtain⟨k,hk,rfl,H,hw⟩:=hrel;by_cases hlt:k<l.length
   .obtain⟨b,off,rfl,hb,hc⟩:=hx (by omega);obtain⟨d,off2,rfl,hd,hc2⟩:=hy (by omega);have e1:=(hw.cell (p:=⟨b,off+k,none⟩) hb).trans (hc k hlt)
    have e2:=(hw.cell (p:=⟨d,off2+k,none⟩) hd).trans (hc2 k (by omega));have hlt2:k<m.length:=by omega
    have hlt3:(k:Int)<(l.length:Int):=by omega
    have hlt4:(k:Int)<(m.length:Int):=by omega
    clear hc hc2;by_cases hv:gi l k=gi m k
    .have hne:(gi l k != gi m k)=false:=by simp[hv]
     go_wp2;go_quiet (fail);go_wp2;refine⟨⟨k+1,by omega,by go_num,?_,below_drewN hw _⟩,by simp only[intOf];omega⟩;intro j hj;by_cases e:j=k
     .subst e;exact hv
     .exact H.out j (by omega)
    .have hne:(gi l k != gi m k)=true:=by simp[hv]
     have R:Hid (decide (l=m)=false):=by
      show decide (l=m)=false;simp only[decide_eq_false_iff_not];intro e;subst e;exact hv rfl
     go_wp2;go_quiet (fail);go_wp2;go_ret;rw[R.out];exact⟨rfl,below_drewN hw _⟩
   .have R:Hid (decide (l=m)=true):=by
     show decide (l=m)=true;simp only[decide_eq_true_eq];exact js H2.out (fun i hi=>H.out i (by omega))
    go_wp2;go_ret;rw[R.out];exact⟨rfl,hw⟩
 .have h2':((l.length:Int) != (m.length:Int))=true:=by simp;omega
  have R:Hid (decide (l=m)=false):=by
   show decide (l=m)=false;simp only[decide_eq_false_iff_not];intro e;subst e;exact h2 rfl
  go_enter func100,ntmps100;go_wp2;go_ret;rw[R.out];exact⟨rfl,Below.refl _ _⟩
end Go.Proofs.YtleegaihbgbcjaaGreatDoor
