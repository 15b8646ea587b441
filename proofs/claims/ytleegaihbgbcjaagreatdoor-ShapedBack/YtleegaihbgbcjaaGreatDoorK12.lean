import Derived.Test.YtleegaihbgbcjaaGreatDoorK08
import Derived.RangeFuncCalls
import Derived.Shelf.Abstract
import Derived.OwnWalkIn
import Derived.TacticsInMore
import Derived.LoopNIn
import Derived.LoopIn
set_option linter.unusedVariables false
set_option linter.unusedSimpArgs false
set_option maxRecDepth 100000
set_option maxHeartbeats 16000000
open Go.Proofs.Tryz
namespace Go.Proofs.YtleegaihbgbcjaaGreatDoor
open Num Bit
def plc(f:Nat->Bool)(n:Nat):List Nat:=(List.range n).filter f
theorem lQ(f:Nat->Bool)(n:Nat):plc f (n+1)=plc f n++if f n then [n]else []:=by
 unfold plc;rw[List.range_succ,List.filter_append,List.filter_cons];cases f n<;>simp
theorem BR(f:Nat->Bool)(n:Nat):(plc f n).length<=n:=by
 have:=List.length_filter_le f (List.range n);rw[List.length_range]at this;exact this
theorem uK(f:Nat->Bool)(n i:Nat):i∈plc f n↔i<n/\f i=true:=by
 unfold plc;rw[List.mem_filter,List.mem_range]
def aR(l:List Nat)(n:Nat):Prop:=(∀i,i<l.length->gt l i<n)/\∀i,i+1<l.length->gt l i<gt l (i+1)
theorem js(l m:List Nat)(i:Nat)(h:i<l.length):gt (l++m) i=gt l i:=by
 unfold gt;rw[List.getD_eq_getElem?_getD,List.getD_eq_getElem?_getD,List.getElem?_append_left h]
theorem kO(l:List Nat)(v:Nat):gt (l++[v]) l.length=v:=by
 unfold gt;rw[List.getD_eq_getElem?_getD,List.getElem?_append_right (Nat.le_refl _),Nat.sub_self];rfl
theorem aR.snoc{l:List Nat}{n v:Nat}(h:aR l n)(hv:v<n)(hl:0<l.length->gt l (l.length-1)<v):aR (l++[v]) n:=by
 constructor
 .intro i hi;rw[List.length_append,List.length_singleton]at hi;by_cases c:i<l.length
  .rw[js l _ i c];exact h.1 i c
  .obtain rfl:i=l.length:=by omega
   rw[kO];exact hv
 .intro i hi;rw[List.length_append,List.length_singleton]at hi;by_cases c:i+1<l.length
  .rw[js l _ i (by omega),js l _ (i+1) c];exact h.2 i c
  .have e:i+1=l.length:=by omega
   rw[js l _ i (by omega),e,kO];have:=hl (by omega);rw[show l.length-1=i by omega]at this;exact this
theorem aR.more{l:List Nat}{n m:Nat}(h:aR l n)(hm:n<=m):aR l m:=⟨fun i hi=>Nat.lt_of_lt_of_le (h.1 i hi) hm,h.2⟩
theorem aR.step{l:List Nat}{n:Nat}(h:aR l n):∀d i,i+d<l.length->gt l i+d<=gt l (i+d):=by
 intro d;induction d with
 | zero=>intro i _;exact Nat.le_refl _
 | succ d ih=>
  intro i hi;have h1:=ih i (by omega);have h2:=h.2 (i+d) (by omega);rw[show i+(d+1)=i+d+1 by omega];omega
theorem aR.lt{l:List Nat}{n:Nat}(h:aR l n){i j:Nat}(hij:i<j)(hj:j<l.length):gt l i<gt l j:=by
 have:=h.step (j-i) i (by omega);rw[show i+(j-i)=j by omega]at this;omega
theorem aR.len{l:List Nat}{n:Nat}(h:aR l n):l.length<=n:=by
 by_cases c:l.length=0
 .omega
 .have:=h.step (l.length-1) 0 (by omega);have:=h.1 (0+(l.length-1)) (by omega);omega
theorem jd(f:Nat->Bool)(n:Nat):aR (plc f n) n:=by
 induction n with
 | zero=>exact⟨fun i hi=>absurd hi (by simp[plc]),fun i hi=>absurd hi (by simp[plc])⟩
 | succ n ih=>
  rw[lQ];cases h:f n with
  | false=>simp only[Bool.false_eq_true,if_false,List.append_nil];exact ih.more (by omega)
  | true=>
   simp only[if_true];exact(ih.more (by omega)).snoc (by omega) (fun h0=>ih.1 _ (by omega))
def isIn(l:List Nat)(j:Nat):Bool:=(List.range l.length).any fun i=>gt l i==j
theorem ff(l:List Nat)(j:Nat):isIn l j=true↔∃i,i<l.length/\gt l i=j:=by
 unfold isIn;rw[List.any_eq_true];constructor
 .rintro⟨i,hi,he⟩;exact⟨i,List.mem_range.1 hi,by simpa using he⟩
 .rintro⟨i,hi,he⟩;exact⟨i,List.mem_range.2 hi,by simpa using he⟩
theorem vB(l:List Nat)(v j:Nat):isIn (l++[v]) j=(isIn l j||v==j):=by
 rw[Bool.eq_iff_iff,ff,Bool.or_eq_true,ff,beq_iff_eq];constructor
 .rintro⟨i,hi,he⟩;rw[List.length_append,List.length_singleton]at hi;by_cases c:i<l.length
  .rw[js l _ i c]at he;exact .inl ⟨i,c,he⟩
  .obtain rfl:i=l.length:=by omega
   rw[kO]at he;exact .inr he
 .rintro(⟨i,hi,he⟩ | he)
  .exact⟨i,by rw[List.length_append];omega,by rw[js l _ i hi];exact he⟩
  .exact⟨l.length,by simp,by rw[kO];exact he⟩
theorem og(l:List Nat)(i:Nat)(h:i<l.length):isIn l (gt l i)=true:=(ff l _).2 ⟨i,h,rfl⟩
theorem uL(l:List Nat)(j:Nat):isIn l j=true↔j∈l:=by
 rw[ff];constructor
 .rintro⟨i,hi,rfl⟩;unfold gt;rw[List.getD_eq_getElem?_getD,List.getElem?_eq_getElem hi];exact List.getElem_mem hi
 .intro h;obtain⟨i,hi,he⟩:=List.getElem_of_mem h;exact⟨i,hi,by unfold gt;rw[List.getD_eq_getElem?_getD,List.getElem?_eq_getElem hi];exact he⟩
theorem AL{l m:List Nat}{n:Nat}(h:aR l n)(k:aR m n)(e:∀j,isIn l j=isIn m j):l=m:=by
 have key:∀{l m:List Nat},aR l n->aR m n->(∀j,isIn l j=isIn m j)->∀i,i<l.length->i<m.length/\gt l i=gt m i:=by
  intro l m h k e i;induction i using Nat.strongRecOn with
  | _ i ih=>
   intro hi;have h1:=og l i hi;rw[e,ff]at h1;obtain⟨j,hj,hje⟩:=h1
   have hij:i<=j:=by
    refine Nat.le_of_not_lt fun c=>?_;have:=ih j c (by omega);have:=h.lt c hi;omega
   refine⟨by omega,?_⟩;by_cases c:i=j
   .subst c;exact hje.symm
   .have h4:=og m i (by omega);rw[<-e,ff]at h4;obtain⟨k',hk,hke⟩:=h4;have hk2:=k.lt (show i<j by omega) hj
    have hki:k'<i:=by
     refine Nat.lt_of_not_le fun c2=>?_;by_cases c3:k'=i
     .subst c3;omega
     .have:=h.lt (show i<k' by omega) hk;omega
    have:=ih k' hki hk;have:=k.lt hki (show i<m.length by omega);omega
 have hl:=fun i hi=>key h k e i hi;have hm:=fun i hi=>key k h (fun j=>(e j).symm) i hi
 have hlen:l.length=m.length:=by
  by_cases c:l.length<=m.length
  .by_cases c2:l.length=m.length
   .exact c2
   .have:=(hm l.length (by omega)).1;omega
  .have:=(hl m.length (by omega)).1;omega
 exact Bit.list_ext _ _ hlen (fun i hi=>(hl i hi).2)
theorem BO{l:List Nat}{n:Nat}(h:aR l n):plc (isIn l) n=l:=by
 refine AL (jd _ n) h fun j=>?_;rw[Bool.eq_iff_iff,uL,uK,ff];constructor
 .rintro⟨_,h2⟩;exact h2
 .rintro⟨i,hi,rfl⟩;exact⟨h.1 i hi,i,hi,rfl⟩
def wdF(n m:Nat):Nat:=if m=0 then 0 else Go.bitLen (n/m)-1
theorem gT(n m:Nat)(h:n<2^21):wdF n m<=20:=by
 unfold wdF;split
 .omega
 .have h1:n/m<=n:=Nat.div_le_self n m;have:=kG (n/m) 21 (by omega);omega
def hiP(l:List Nat)(w:Nat):List Nat:=(List.range l.length).map fun i=>gt l i/2^w+i
def hiN(l:List Nat)(n w:Nat):Nat:=l.length+n/2^w+1
def loP(l:List Nat)(w:Nat):List Nat:=if w=0 then []else l.map (·%2^w)
theorem kA(l:List Nat)(w:Nat):(hiP l w).length=l.length:=by simp[hiP]
theorem kM(l:List Nat)(w i:Nat)(h:i<l.length):gt (hiP l w) i=gt l i/2^w+i:=by
 unfold hiP;show gt _ i=_;unfold gt;rw[List.getD_eq_getElem?_getD,List.getElem?_map,List.getElem?_range h];rfl
theorem FR(l:List Nat)(f:Nat->Nat)(i:Nat)(h:i<l.length):gt (l.map f) i=f (gt l i):=by
 unfold gt;rw[List.getD_eq_getElem?_getD,List.getD_eq_getElem?_getD,List.getElem?_map,List.getElem?_eq_getElem h];rfl
theorem jM(l:List Nat)(w:Nat)(h:0<w):(loP l w).length=l.length:=by unfold loP;rw[if_neg (by omega),List.length_map]
theorem ox(l:List Nat)(w i:Nat)(hw:0<w)(h:i<l.length):gt (loP l w) i=gt l i%2^w:=by unfold loP;rw[if_neg (by omega),FR l _ i h]
theorem vY{l:List Nat}{n:Nat}(w:Nat)(h:aR l n):aR (hiP l w) (hiN l n w):=by
 constructor
 .intro i hi;rw[kA]at hi;rw[kM l w i hi];have:=Nat.div_le_div_right (c:=2^w) (Nat.le_of_lt (h.1 i hi));unfold hiN;omega
 .intro i hi;rw[kA]at hi;rw[kM l w i (by omega),kM l w (i+1) hi];have:=Nat.div_le_div_right (c:=2^w) (Nat.le_of_lt (h.2 i hi));omega
def gy(w:Nat)(lo hi:List Nat)(q:Nat):Nat:=(gt hi q-q)*2^w+if w=0 then 0 else gt lo q%2^w
def eO(n w:Nat)(lo hi:List Nat):Nat->Option (List Nat)
 | 0=>some []
 | q+1=>match eO n w lo hi q with
  | none=>none
  | some out=>if n<=gy w lo hi q\/(0<q/\gy w lo hi q<=gt out (q-1))then none else some (out++[gy w lo hi q])
theorem rd(n w:Nat)(lo hi:List Nat):∀q out,eO n w lo hi q=some out->out.length=q/\aR out n:=by
 intro q;induction q with
 | zero=>intro out h;simp only[eO,Option.some.injEq]at h;subst h;exact⟨rfl,fun i hi=>absurd hi (by simp),fun i hi=>absurd hi (by simp)⟩
 | succ q ih=>
  intro out h;rw[eO]at h;cases hq:eO n w lo hi q with
  | none=>rw[hq]at h;cases h
  | some o=>
   rw[hq]at h;obtain⟨h1,h2⟩:=ih o hq;simp only at h;split at h
   .cases h
   .rename_i hn;obtain rfl:=Option.some.inj h;refine⟨by rw[List.length_append,h1];rfl,h2.snoc (by omega) fun h0=>?_⟩;rw[h1]at h0⊢;omega
theorem Gu{l:List Nat}{n:Nat}(w q:Nat)(h:q<l.length):gy w (loP l w) (hiP l w) q=gt l q:=by
 unfold gy;rw[kM l w q h,Nat.add_sub_cancel];by_cases hw:w=0
 .subst hw;simp
 .rw[if_neg hw,ox l w q (by omega) h,Nat.mod_mod];rw[Nat.mul_comm];exact Nat.div_add_mod _ _
theorem sI(l:List Nat)(q:Nat)(h:q<l.length):l.take (q+1)=l.take q++[gt l q]:=by
 rw[List.take_add_one,List.getElem?_eq_getElem h];unfold gt;rw[List.getD_eq_getElem?_getD,List.getElem?_eq_getElem h];rfl
theorem om(l:List Nat)(q i:Nat)(h:i<q):gt (l.take q) i=gt l i:=by
 unfold gt;rw[List.getD_eq_getElem?_getD,List.getD_eq_getElem?_getD,List.getElem?_take_of_lt h]
theorem GW{l:List Nat}{n:Nat}(w:Nat)(h:aR l n):∀q,q<=l.length->eO n w (loP l w) (hiP l w) q=some (l.take q):=by
 intro q;induction q with
 | zero=>intro _;rfl
 | succ q ih=>
  intro hq;rw[eO,ih (by omega)];simp only;rw[Gu (n:=n) w q (by omega),if_neg,sI l q (by omega)];rintro(c | ⟨c1,c2⟩)
  .have:=h.1 q (by omega);omega
  .rw[om l q (q-1) (by omega)]at c2;have:=h.lt (show q-1<q by omega) (show q<l.length by omega);omega
structure FA where
 N:Int
 M:Int
 k:Int
 V:Int
 LM:Int
 xs:List Nat
 H:Int
 ys:List Nat
def cK(n:Nat)(l:List Nat):FA:=
 ⟨n,l.length,(loP l (wdF n l.length)).length,((max (wdF n l.length) 1:Nat):Int),((loP l (wdF n l.length)).length:Int)*(max (wdF n l.length) 1:Nat),mkS (loP l (wdF n l.length)) (max (wdF n l.length) 1) (loP l (wdF n l.length)).length,hiN l n (wdF n l.length),rowOf (hiN l n (wdF n l.length)) (isIn (hiP l (wdF n l.length)))⟩
def gM(a:FA):Option (List Nat):=
 let hi:=plc (bitAt a.ys) a.H.toNat
 let lo:=(List.range a.k.toNat).map (numAt a.V.toNat a.xs)
 let w:=wdF a.N.toNat a.M.toNat
 if (0<=a.N/\a.N<=1048576/\0<=a.M/\a.M<=a.N)/\aZ a.k a.V a.LM a.xs=true/\ar a.H a.ys=true/\(hi.length:Int)=a.M/\(w=0\/(lo.length:Int)=a.M)then eO a.N.toNat w lo hi hi.length else none
theorem Gy(l:List Nat)(W:Nat)(hW:1<=W)(hl:∀i,gt l i<2^W)(i:Nat)(hi:i<l.length):numAt W (mkS l W l.length) i=gt l i:=by
 unfold numAt;refine(io W (gt l i) _ fun k=>?_).symm;by_cases c:k<W
 .unfold mkS
  have e1:(i*W+k)/W=i:=by
   rw[Nat.mul_comm,Nat.mul_add_div (by omega),Nat.div_eq_of_lt c];omega
  have e2:(i*W+k)%W=k:=by rw[Nat.mul_comm,Nat.mul_add_mod,Nat.mod_eq_of_lt c]
  have e3:i*W+k<l.length*W:=by
   have:=ma l.length W i hi;omega
  rw[eD,e1,e2];simp[c,e3]
 .have:gt l i<2^k:=Nat.lt_of_lt_of_le (hl i) (Nat.pow_le_pow_right (by decide) (by omega));rw[Nat.testBit_lt_two_pow this];simp[c]
theorem GN(l:List Nat)(W:Nat)(hW:1<=W)(hW2:W<=64)(hl:l.length*W<=1048576):aZ (l.length:Int) (W:Int) ((l.length*W:Nat):Int) (mkS l W l.length)=true:=by
 unfold aZ;rw[Bool.and_eq_true,decide_eq_true_eq];refine⟨⟨by omega,by omega,by omega,by rw[Int.natCast_mul]⟩,?_⟩;exact dL _ _ hl
theorem qj(l:List Nat)(w i:Nat):gt (loP l w) i<2^(max w 1):=by
 by_cases hw:w=0
 .subst hw;unfold loP gt;simp
 .by_cases c:i<l.length
  .rw[ox l w i (by omega) c,show max w 1=w by omega];exact Nat.mod_lt _ (Nat.two_pow_pos _)
  .unfold gt;rw[List.getD_eq_getElem?_getD,List.getElem?_eq_none (by rw[jM l w (by omega)];omega)];exact Nat.two_pow_pos _
theorem qr(l:List Nat)(w:Nat):(loP l w).length<=l.length:=by
 unfold loP;split
 .simp
 .rw[List.length_map];exact Nat.le_refl _
theorem BT(f g:Nat->Bool)(n:Nat)(h:∀i,i<n->f i=g i):plc f n=plc g n:=by
 unfold plc;exact List.filter_congr fun i hi=>h i (List.mem_range.1 hi)
theorem DT(lo:List Nat)(V:Nat)(hV:1<=V)(hl:∀i,gt lo i<2^V):(List.range lo.length).map (numAt V (mkS lo V lo.length))=lo:=by
 refine Bit.list_ext _ _ (by simp) fun i hi=>?_;rw[List.length_map,List.length_range]at hi
 have e:gt ((List.range lo.length).map (numAt V (mkS lo V lo.length))) i=numAt V (mkS lo V lo.length) i:=by
  unfold gt;rw[List.getD_eq_getElem?_getD,List.getElem?_map,List.getElem?_range hi];rfl
 rw[e];exact Gy lo V hV hl i hi
theorem GX{l:List Nat}{n:Nat}(h:aR l n)(hn:n<=1048576)(h1:hiN l n (wdF n l.length)<=1048576)(h2:(loP l (wdF n l.length)).length*max (wdF n l.length) 1<=1048576):gM (cK n l)=some l:=by
 have hl:=h.len;have hw:=gT n l.length (by omega)
 have e1:plc (bitAt (cK n l).ys) (cK n l).H.toNat=hiP l (wdF n l.length):=by
  show plc (bitAt (rowOf _ _)) (hiN l n (wdF n l.length):Int).toNat=_;rw[Int.toNat_natCast,BT _ (isIn (hiP l (wdF n l.length))) _ (fun i hi=>by rw[eD];simp[hi])];exact BO (vY _ h)
 have e2:(List.range (cK n l).k.toNat).map (numAt (cK n l).V.toNat (cK n l).xs)=loP l (wdF n l.length):=by
  show(List.range ((loP l (wdF n l.length)).length:Int).toNat).map (numAt ((max (wdF n l.length) 1:Nat):Int).toNat _)=_;rw[Int.toNat_natCast,Int.toNat_natCast];exact DT _ _ (by omega) (qj l _)
 have e3:aZ (cK n l).k (cK n l).V (cK n l).LM (cK n l).xs=true:=by
  have:=GN (loP l (wdF n l.length)) (max (wdF n l.length) 1) (by omega) (by omega) h2;rw[Int.natCast_mul]at this;exact this
 have e4:ar (cK n l).H (cK n l).ys=true:=dL _ _ h1;have e5:(cK n l).N.toNat=n:=rfl;have e6:(cK n l).M.toNat=l.length:=rfl;unfold gM;simp only[e1,e2,e3,e4,e5,e6,kA];rw[if_pos]
 .rw[GW _ h l.length (Nat.le_refl _),List.take_of_length_le (Nat.le_refl _)]
 .refine⟨?_,trivial,trivial,rfl,?_⟩
  .show(0:Int)<=(n:Int)/\(n:Int)<=1048576/\(0:Int)<=(l.length:Int)/\(l.length:Int)<=(n:Int);omega
  .by_cases c:wdF n l.length=0
   .exact .inl c
   .right;rw[jM l _ (by omega)];rfl
theorem oV(a b u v t:Nat)(hu:u<2^t)(hv:v<2^t):(2^t*a+u)&&&(2^t*b+v)=2^t*(a&&&b)+(u&&&v):=by
 have huv:(u&&&v)<2^t:=Nat.lt_of_le_of_lt Nat.and_le_left hu;refine Nat.eq_of_testBit_eq fun j=>?_
 rw[Nat.testBit_and,Nat.testBit_two_pow_mul_add a hu,Nat.testBit_two_pow_mul_add b hv,Nat.testBit_two_pow_mul_add (a&&&b) huv];split<;>simp[Nat.testBit_and]
theorem CW(y:Nat)(h:y≠0):∃s d,y=2^s*(2*d+1):=by
 induction y using Nat.strongRecOn with
 | _ y ih=>
  by_cases c:y%2=1
  .exact⟨0,y/2,by omega⟩
  .obtain⟨s,d,e⟩:=ih (y/2) (by omega) (by omega);refine⟨s+1,d,?_⟩;rw[Nat.pow_succ,Nat.mul_right_comm,<-e];omega
theorem JQ(d:Nat):(2*d+1)&&&(2*d)=2*d:=by
 have:=oV d d 1 0 1 (by decide) (by decide);rw[Nat.pow_one]at this;simpa using this
theorem JM(s d:Nat):(2^s*(2*d+1))&&&(2^s*(2*d+1)-1)=2^(s+1)*d:=by
 have hp:=Nat.two_pow_pos s
 have e:2^s*(2*d+1)-1=2^s*(2*d)+(2^s-1):=by
  rw[Nat.mul_add];omega
 rw[e];have:=oV (2*d+1) (2*d) 0 (2^s-1) s hp (by omega);rw[Nat.add_zero,JQ,Nat.zero_and]at this;rw[this,Nat.pow_succ,Nat.mul_assoc,Nat.add_zero]
theorem JR(d k:Nat)(h:d<2^k):d&&&(2^k-(d+1))=0:=by
 refine Nat.eq_of_testBit_eq fun j=>?_;rw[Nat.testBit_and,Nat.testBit_two_pow_sub_succ h,Nat.zero_testBit];cases d.testBit j<;>simp
theorem JN(s d:Nat)(h:2^s*(2*d+1)<18446744073709551616):(2^s*(2*d+1))&&&(18446744073709551616-2^s*(2*d+1))=2^s:=by
 have hp:=Nat.two_pow_pos s
 have hs:s<64:=by
  refine Nat.lt_of_not_le fun c=>?_;have h1:2^64<=2^s:=Nat.pow_le_pow_right (by decide) c;have h2:2^s*1<=2^s*(2*d+1):=Nat.mul_le_mul_left _ (by omega);omega
 obtain⟨k,hk⟩:∃k,64=s+(k+1):=⟨63-s,by omega⟩
 have e64:18446744073709551616=2^s*(2*2^k):=by
  rw[<-Nat.pow_succ',<-Nat.pow_add,<-hk]
 have hd:d<2^k:=by
  rw[e64]at h;have:=Nat.lt_of_mul_lt_mul_left h;omega
 rw[e64,<-Nat.mul_sub];have e2:2*2^k-(2*d+1)=2*(2^k-(d+1))+1:=by omega
 rw[e2];have h3:=oV (2*d+1) (2*(2^k-(d+1))+1) 0 0 s hp hp;have h4:=oV d (2^k-(d+1)) 1 1 1 (by decide) (by decide);rw[Nat.pow_one,JR d k hd]at h4
 simp only[Nat.add_zero,Nat.and_zero,Nat.mul_zero,Nat.zero_add]at h3 h4;rw[h3,h4];simp
def dy(x p:Nat):Nat:=2^p*(x/2^p)
theorem AX(x p:Nat):dy x p<=x:=Nat.mul_div_le x (2^p)
theorem AW(x:Nat):dy x 0=x:=by unfold dy;simp
theorem AV(x p:Nat)(h:dy x p=0)(k:Nat)(hk:p<=k):x.testBit k=false:=by
 unfold dy at h
 have h0:x/2^p=0:=by
  rcases Nat.mul_eq_zero.1 h with c | c
  .have:=Nat.two_pow_pos p;omega
  .exact c
 have hx:x<2^p:=Nat.lt_of_div_eq_zero (Nat.two_pow_pos p) h0;exact Nat.testBit_lt_two_pow (Nat.lt_of_lt_of_le hx (Nat.pow_le_pow_right (by decide) hk))
theorem AU(x p:Nat)(hx:x<18446744073709551616)(h:dy x p≠0):∃t,p<=t/\t<64/\x.testBit t=true/\(∀k,p<=k->k<t->x.testBit k=false)/\(dy x p&&&(18446744073709551616-dy x p))=2^t/\(dy x p&&&(dy x p-1))=dy x (t+1):=by
 have h0:x/2^p≠0:=fun c=>h (by unfold dy;rw[c,Nat.mul_zero]);obtain⟨s,d,e⟩:=CW _ h0
 have er:dy x p=2^(p+s)*(2*d+1):=by
  unfold dy;rw[e,Nat.pow_add,Nat.mul_assoc]
 have hr:=AX x p
 have tb:∀k,p<=k->x.testBit k=(x/2^p).testBit (k-p):=fun k hk=>by
  rw[Nat.testBit_div_two_pow,Nat.sub_add_cancel hk]
 have ht:x.testBit (p+s)=true:=by
  rw[tb _ (by omega),e,Nat.add_sub_cancel_left,Nat.testBit_two_pow_mul];simp
 have h64:p+s<64:=by
  refine Nat.lt_of_not_le fun c=>?_;rw[Nat.testBit_lt_two_pow (Nat.lt_of_lt_of_le (show x<2^64 from hx) (Nat.pow_le_pow_right (by decide) c))]at ht;cases ht
 refine⟨p+s,by omega,h64,ht,fun k h1 h2=>?_,?_,?_⟩
 .rw[tb k h1,e,Nat.testBit_two_pow_mul];have:¬s<=k-p:=by omega
  simp[this]
 .rw[er];exact JN _ _ (by omega)
 .rw[er,JM];unfold dy;congr 1;rw[show p+s+1=p+(s+1)by omega,Nat.pow_add,<-Nat.div_div_eq_div_mul,e,Nat.pow_succ,<-Nat.div_div_eq_div_mul,Nat.mul_div_cancel_left _ (Nat.two_pow_pos s)];omega
theorem pS(f:Nat->Bool)(a d:Nat)(h:∀k,a<=k->k<a+d->f k=false):plc f (a+d)=plc f a:=by
 induction d with
 | zero=>rfl
 | succ d ih=>
  rw[show a+(d+1)=a+d+1 by omega,lQ,h (a+d) (by omega) (by omega),ih (fun k h1 h2=>h k h1 (by omega))];simp
theorem BQ(f:Nat->Bool)(a d:Nat):∃l,plc f (a+d)=plc f a++l:=by
 induction d with
 | zero=>exact⟨[],by simp⟩
 | succ d ih=>
  obtain⟨l,hl⟩:=ih;rw[show a+(d+1)=a+d+1 by omega,lQ,hl];exact⟨_,List.append_assoc _ _ _⟩
theorem BP(f:Nat->Bool)(a n:Nat)(ha:a<n)(h:f a=true):(plc f a).length<(plc f n).length/\gt (plc f n) (plc f a).length=a/\(plc f (a+1)).length=(plc f a).length+1:=by
 have h1:plc f (a+1)=plc f a++[a]:=by rw[lQ,h];rfl
 obtain⟨l,hl⟩:=BQ f (a+1) (n-(a+1));rw[show a+1+(n-(a+1))=n by omega,h1]at hl;refine⟨by rw[hl];simp,?_,by rw[h1];simp⟩;rw[hl,List.append_assoc]
 have:=js (plc f a++[a]) l (plc f a).length (by simp);rw[kO,List.append_assoc]at this;exact this
theorem rK(xs:List Nat)(j k:Nat)(h:k<64):bitAt xs (64*j+k)=(gt xs j).testBit k:=by
 unfold bitAt;rw[show(64*j+k)/64=j by omega,show(64*j+k)%64=k by omega]
end Go.Proofs.YtleegaihbgbcjaaGreatDoor
namespace Go.Proofs.YtleegaihbgbcjaaGreatDoor
open Go
section
variable {P:Program} {ops:Array Oper} {Q:Exit->Act->World->Prop} {md:Region.Mode} {S:World->Prop} {ns:List Nat} {F:Fence} {n:Nat}
def nH(ops:Array Oper):Bool:=ops.toList.all fun o=>match o.op with | .defer _=>false | _=>true
theorem qb{j:Nat}{o:Oper}(h:nH ops=true)(hj:ops[j]?=some o):∀c,o.op≠.defer c:=by
 intro c e;unfold nH at h;rw[List.all_eq_true]at h
 have hm:o∈ops.toList:=by
  rw[<-Array.getElem?_toList]at hj;exact List.mem_of_getElem? hj
 have:=h o hm;rw[e]at this;cases this
theorem rY{i:Nat}{o:Oper}{v:Value}{a:Act}{K:Act->World->Prop}{w:World}(hF:∀f,F.fn f)(hi:ops[i]?=some o)(hd:∀c,o.op≠.defer c)(hy:YieldsIf P ops S o v a)(hS:S w)(h:K (a.put o.dst v) w):wpOpIn F n P ops Q i K a w:=by
 unfold wpOpIn;simp only[hi];rcases hy with⟨hw,hv⟩ | ⟨hw,rfl⟩
 .rw[if_pos hw];refine⟨fun f _=>hF f,?_⟩;rw[Oper.semAt_eq _ _ _ hd,hv w hS];exact h
 .rw[if_neg (by rw[hw];simp)];exact⟨fun f _=>hF f,h⟩
theorem xU{j:Nat}{oi oj:Oper}{v:Value}{K:Act->World->Prop}{a:Act}{w:World}(hF:∀f,F.fn f)(hj:ops[j]?=some oj)(hd:∀c,oj.op≠.defer c)(hap:oi.apart ops oj=true)
  (hsi:∀cs b,oi.op≠.select cs b) (hsj:∀cs b,oj.op≠.select cs b) (hQ:∀c a w,Q (.panic c) (a.put oi.dst v) w->Q (.panic c) a w)
  (hy:YieldsIf P ops S oi v a) (h:wpOpIn F n P ops Q j K (a.put oi.dst v) w):
  wpOpIn F n P ops Q j (fun a' w'=>YieldsIf P ops S oi v a'/\K (a'.put oi.dst v) w') a w:=by
 obtain⟨h1,h2,h3⟩:=Oper.apart_spec hap;have keep:∀u,YieldsIf P ops S oi v (a.put oj.dst u):=fun u=>hy.of_same (execOp_put oi hsi a oj.dst u h3) (wanted_put oi a oj.dst u h3)
 have fit:∀u w',K ((a.put oi.dst v).put oj.dst u) w'->YieldsIf P ops S oi v (a.put oj.dst u)/\K ((a.put oj.dst u).put oi.dst v) w':=fun u w' hk=>⟨keep u,by rw[<-Act.put_comm a v u h2];exact hk⟩;unfold wpOpIn at h⊢
 simp only[hj]at h⊢;rw[wanted_put oj a oi.dst v h1]at h;by_cases hw:Region.wanted oj (yielded ops a.tmps)=true
 .rw[if_pos hw]at h⊢;refine⟨fun f _=>hF f,?_⟩;have h:=h.2;rw[Oper.semAt_eq _ _ _ hd,execOp_put oj hsj a oi.dst v h1]at h;rw[Oper.semAt_eq _ _ _ hd];generalize (execOp a.eval oj).run P w=r at h⊢;match r,h with
  | .ok (.value u) w',h=>exact fit u w' h
  | .ok .skip w',h=>exact fit undef w' h
  | .ok (.defer d) w',h=>
   have kd:YieldsIf P ops S oi v { a with defers:=d::a.defers }:=hy.of_same rfl rfl;refine⟨kd.of_same (execOp_put oi hsi _ oj.dst undef h3) (wanted_put oi _ oj.dst undef h3),?_⟩
   rw[<-Act.put_comm _ v undef h2,<-Act.put_defers];exact h
  | .ok (.enter f args) w',h=>
   refine⟨h.1,h.2.mono fun e w2 he=>?_⟩;match e,he with
   | .returned u,he=>exact fit u w2 he
   | .panicked c,he=>exact hQ _ _ _ he
   | .outgrown,he=>exact he
  | .ok (.row row args) w',h=>exact⟨h.1,RowsIn.mono h.2 fun u w2 he=>fit u w2 he⟩
  | .ok (.round l f tmps assign body) w',h=>
   refine⟨h.1,RoundIn.mono h.2 fun e w2 he=>?_⟩;match e,he with
   | .returned u,he=>exact fit u w2 he
   | .panicked c,he=>exact hQ _ _ _ he
   | .outgrown,he=>exact he
  | .halt (.panic u) w',h=>exact hQ _ _ _ h
 .rw[if_neg hw]at h⊢;exact⟨fun f _=>hF f,fit undef w h.2⟩
def aI(F:Fence)(n:Nat)(P:Program)(md:Region.Mode)(ops:Array Oper)(Q:Exit->Act->World->Prop)(S:World->Prop)(ns:List Nat):Nat->Array Bool->Act->World->Prop
 | 0,l,a,w=>Region.ready md ops l=[]/\Q .normal a w
 | f+1,l,a,w=>(Region.ready md ops l=[]->Q .normal a w)/\∀i∈Region.ready md ops l,wpOpIn F n P ops Q i (fun a' w'=>(i ∉ ns->S w->S w')/\aI F n P md ops Q S ns f (l.setIfInBounds i true) a' w') a w
theorem aI.any:∀f l a w,aI F n P md ops Q S ns f l a w->wpAnyIn F n P md ops Q f l a w
 | 0,_,_,_,h=>h
 | f+1,_,_,_,h=>⟨h.1,fun i hi=>wpOpIn_mono (fun a' w' h'=>aI.any f _ a' w' h'.2) (h.2 i hi)⟩
theorem aI.first{i:Nat}{oi:Oper}{v:Value}(hF:∀f,F.fn f)(hi:ops[i]?=some oi)(hsel:Region.noSelect ops=true)(hdef:nH ops=true)(hQ:∀c a w,Q (.panic c) (a.put oi.dst v) w->Q (.panic c) a w)(hw:ns.all (fun n=>gU md ops n i)=true):
  ∀f l a w,(∀j oj,ops[j]?=some oj->j≠i->l.getD j true=false->(∀e∈oj.after,Region.binds md e=true->e.on≠i)->oi.apart ops oj=true)->
   i∈Region.ready md ops l->YieldsIf P ops S oi v a->S w->aI F n P md ops Q S ns f (l.setIfInBounds i true) (a.put oi.dst v) w->aI F n P md ops Q S ns (f+1) l a w:=by
 intro f;induction f with
 | zero=>
  intro l a w _ hr hy hS H;refine⟨fun h=>absurd hr (by rw[h];simp),fun j hj=>?_⟩;by_cases c:j=i
  .subst c;exact rY hF hi (qb hdef hi) hy hS ⟨fun _ h=>h,H⟩
  .have h1:=ready_mono hj c;rw[H.1]at h1;exact absurd h1 (by simp)
 | succ f ih=>
  intro l a w hfree hr hy hS H;refine⟨fun h=>absurd hr (by rw[h];simp),fun j hj=>?_⟩;by_cases c:j=i
  .subst c;exact rY hF hi (qb hdef hi) hy hS ⟨fun _ h=>h,H⟩
  have hun:=(mem_ready.1 hr).1;have hjn:j ∉ ns:=fun e=>ss (List.all_eq_true.1 hw j e) hun hj;obtain⟨hjun,oj,hoj,hall⟩:=mem_ready.1 hj
  have hnot:∀e∈oj.after,Region.binds md e=true->e.on≠i:=by
   intro e he hb heq;have h1:=hall e he hb;rw[heq]at h1;rcases Nat.lt_or_ge i l.size with h' | h'
   .simp[h']at hun h1;rw[hun]at h1;cases h1
   .simp[Array.getElem?_eq_none h']at h1
  have h2:=xU hF hoj (qb hdef hoj) (hfree j oj hoj c hjun hnot) (fun cs b=>Region.noSelect_spec hsel i oi cs b hi) (fun cs b=>Region.noSelect_spec hsel j oj cs b hoj) hQ hy (H.2 j (ready_mono hj c))
  refine wpOpIn_mono (fun a' w' h3=>⟨h3.2.1,ih (l.setIfInBounds j true) a' w' ?_ (ready_mono hr (Ne.symm c)) h3.1 (h3.2.1 hjn hS) ?_⟩) h2
  .intro k ok hk hki hku hno;refine hfree k ok hk hki ?_ hno;by_cases e:j=k
   .subst e;exact hjun
   .rw[getD_set_ne true e]at hku;exact hku
  .rw[Array.setIfInBounds_comm _ _ c];exact h3.2.2
theorem aI.take(i:Nat){oi:Oper}{v:Value}{f:Nat}{l:Array Bool}{a:Act}{w:World}(hF:∀f,F.fn f)(hi:ops[i]?=some oi)(hs:Region.noSelect ops=true)(hdef:nH ops=true)(hf:Region.free md ops l i=true)(hr:(Region.ready md ops l).contains i=true)(hw:ns.all (fun n=>gU md ops n i)=true)
  (hQ:∀c a w,Q (.panic c) (a.put oi.dst v) w->Q (.panic c) a w) (hS:S w) (hy:∀w0,S w0->(execOp a.eval oi).run P w0=.ok (.value v) w0) (hwn:Region.wanted oi (yielded ops a.tmps)=true)
  (h:aI F n P md ops Q S ns f (l.setIfInBounds i true) (a.put oi.dst v) w):aI F n P md ops Q S ns (f+1) l a w:=
 aI.first hF hi hs hdef hQ hw f l a w (Region.free_spec hi hf) (by simpa using hr) (.inl ⟨hwn,hy⟩) hS h
theorem aI.one(i:Nat){o:Oper}{f:Nat}{l:Array Bool}{a:Act}{w:World}(hF:∀f,F.fn f)(hr:Region.ready md ops l=[i])(ho:ops[i]?=some o)(hd:∀c,o.op≠.defer c)(hwn:Region.wanted o (yielded ops a.tmps)=true)
  (h:∀K:Act->World->Prop,Shut (∀a' w',(i ∉ ns->S w')->aI F n P md ops Q S ns f (l.setIfInBounds i true) a' w'->K a' w')->o.uponIn F n P a K Q ((execOp a.eval o).run P w)):
  aI F n P md ops Q S ns (f+1) l a w:=by
 refine⟨fun h0=>absurd (hr.symm.trans h0) (by simp),fun j hj=>?_⟩;rw[hr]at hj;obtain rfl:=List.mem_singleton.1 hj;refine wpOpIn_step ho (fun K hK=>?_);rw[if_pos hwn];refine⟨fun f _=>hF f,?_⟩
 rw[Oper.semAt_eq _ _ _ hd];exact h K (fun a' w' hS hW=>hK a' w' ⟨fun n _=>hS n,hW⟩)
theorem aI.done{l:Array Bool}{a:Act}{w:World}(hr:Region.ready md ops l=[])(h:Q .normal a w):∀f,aI F n P md ops Q S ns f l a w
 | 0=>⟨hr,h⟩
 | _+1=>⟨fun _=>h,by rw[hr];simp⟩
theorem pL(ns:List Nat)(S:World->Prop){id:Nat}{a:Act}{w:World}(hm:P.follows .mixedOrders=true)(h:aI F n P .any ops Q S ns ops.size (Array.replicate ops.size false) a w.drew):(Code.region id ops true).wpIn F n P Q a w:=
 wpIn_region_any hm (aI.any _ _ _ _ h)
end
open Go Go.RowKit
structure az (K:Nat->Prop) (W W':World):Prop where
 os:W'.os=W.os
 tape:W'.tape=W.tape
 output:W'.output=W.output
 size:W.heap.size<=W'.heap.size
 same:∀b,K b->b<W.heap.size->W'.heap[b]?=W.heap[b]?
theorem az.refl(K:Nat->Prop)(W:World):az K W W:=⟨rfl,rfl,rfl,Nat.le_refl _,fun _ _ _=>rfl⟩
theorem az.trans{K:Nat->Prop}{a b c:World}(h:az K a b)(k:az K b c):az K a c:=
 ⟨k.os.trans h.os,k.tape.trans h.tape,k.output.trans h.output,Nat.le_trans h.size k.size,fun x hx hl=>(k.same x hx (Nat.lt_of_lt_of_le hl h.size)).trans (h.same x hx hl)⟩
theorem az.less{K K':Nat->Prop}{a b:World}(h:az K a b)(hk:∀x,K' x->K x):az K' a b:=⟨h.os,h.tape,h.output,h.size,fun x hx hl=>h.same x (hk x hx) hl⟩
theorem az.of{K:Nat->Prop}{a b:World}(h:Below a.heap.size a b):az K a b:=⟨h.os,h.tape,h.output,h.size,fun x _ hl=>h.block x hl⟩
theorem az.setCell{K:Nat->Prop}{a b:World}(h:az K a b){p:Addr}(hp:¬K p.block)(v:Value):az K a (b.setCell p v):=
 h.trans ⟨rfl,rfl,rfl,by simp[World.setCell],fun x hx _=>Below.heap_setCell _ _ _ _ (fun e=>hp (e ▸ hx))⟩
theorem az.putObj{K:Nat->Prop}{a b:World}(h:az K a b){r:Nat}(hp:¬K r)(o:Obj):az K a (b.putObj r o):=
 h.trans ⟨rfl,rfl,rfl,by simp,fun x hx _=>World.putObj_heap_other (fun e=>hp (e ▸ hx))⟩
theorem dt{B:Nat}{W:World}{r:Nat}(h:B<=r)(o:Obj):Below B W (W.putObj r o):=
 ⟨rfl,rfl,rfl,by simp,fun x hx=>World.putObj_heap_other (by omega)⟩
theorem az.below{K:Nat->Prop}{B:Nat}{a b:World}(h:az K a b)(hB:∀x,x<B->K x)(hs:B<=a.heap.size):Below B a b:=
 ⟨h.os,h.tape,h.output,h.size,fun x hx=>h.same x (hB x hx) (by omega)⟩
theorem bG(l:Nat)(f:FuncId):(Fence.wide.inRound l).fn f:=trivial
def jE(P:Program)(g:Nat)(lb:Array Value)(N:Nat)(enc:Nat->Array Value)(K:Nat->Prop)(w:World):Prop:=
 ∀(l:Nat) (J Jx:Nat->World->Prop) (W:World),Below w.heap.size w W->(∀b,W.heap.size<=b->K b)->
  (∀q W1 W2,J q W1->Below W.heap.size W1 W2->J q W2)->(∀q W1 W2,Jx q W1->Below W.heap.size W1 W2->Jx q W2)->
  (∀q W1,q<N->J q W1->W.heap.size<=W1.heap.size->YieldAt Fence.wide 0 P l (enc q) W1 fun e W2=>
   az K W1 W2/\((e=.returned (.bool true)/\J (q+1) W2)\/(e=.returned (.bool false)/\Jx q W2)))->
  J 0 W->
  Calls P g (#[.func (.yield l) #[] #[]]++lb) W fun e W'=>(∃v,e=.returned v)/\(J N W'\/∃q,q<N/\Jx q W')
theorem jE.enc{P:Program}{g:Nat}{lb:Array Value}{N:Nat}{enc enc':Nat->Array Value}{K:Nat->Prop}{w:World}(h:jE P g lb N enc K w)(he:∀q,q<N->enc q=enc' q):jE P g lb N enc' K w:=
 fun l J Jx W h1 h2 h3 h4 h5 h6=>h l J Jx W h1 h2 h3 h4 (fun q W1 hq hj hz=>by rw[he q hq];exact h5 q W1 hq hj hz) h6
def AG(K:Nat->Prop)(I Ix:Nat->World->Prop)(q:Nat)(W:World):Exit->Act->World->Prop
 | .normal,_,W'=>az K W W'/\I (q+1) W'
 | .ret,_,W'=>az K W W'/\Ix q W'
 | _,_,_=>False
theorem iE{P:Program}{g:Operand}{ps:Array Tmp}{assign body:Code}{Q:Exit->Act->World->Prop}{a:Act}{w:World}{gf:Nat}{lb:Array Value}{N:Nat}{enc:Nat->Array Value}{K:Nat->Prop}
  (hg:a.eval g=.func (.func gf) #[] lb) (eg:∀args w,(callFunc gf args).run P w=.ok (.enter gf args) w) (hps:∀q,(enc q).size=ps.size)
  (hseq:jE P gf lb N enc (fun b=>K b/\b≠w.heap.size+1) w) (hK:∀b,w.heap.size<=b->K b)
  (I Ix:Nat->World->Prop) (hI:∀q W1 W2,I q W1->Below w.heap.size W1 W2->I q W2) (hIx:∀q W1 W2,Ix q W1->Below w.heap.size W1 W2->Ix q W2) (h0:I 0 w) (a₁:Nat->Act)
  (hassign:∀(l q:Nat) (W:World) (K:Act->World->Prop),K (a₁ q) W->assign.wpIn (Fence.wide.inRound l) 0 P (Exit.then K fun _ _ _=>False) { tmps:=(ps.zip (enc q)).foldl (fun t (p,v)=>t.setIfInBounds p v) a.tmps,defers:=[] } W)
  (hbody:∀(l q:Nat) (W:World),q<N->I q W->w.heap.size+2<=W.heap.size->body.wpIn (Fence.wide.inRound l) 0 P (AG K I Ix q W) (a₁ q) W)
  (hdone:∀(D:Nat) (W:World),w.heap.size<=D->I N W->W.heap[D]?=some (.deferred (some []))->Q .normal { a with defers:={ target:=.collected D,args:=#[] }::a.defers } W)
  (hstop:∀(D q:Nat) (W:World),w.heap.size<=D->q<N->Ix q W->W.heap[D]?=some (.deferred (some []))->Q .ret { a with defers:={ target:=.collected D,args:=#[] }::a.defers } W):
  (Code.rangeFunc g ps assign body).wp P Q a w:=by
 refine(wpIn_wide (n:=0)).1 (wpIn_rangeFunc fun fn _=>?_);let rc:LoopState->Option Code->Loop:=fun st pe=>{ state:=st,pending:=pe,fn,tmps:=a.tmps,params:=ps,assign,body,defers:=w.heap.size }
 let W1:=(w.alloc (.deferred (some []))).alloc (.loop (rc .ready none))
 have z1:W1.heap.size=w.heap.size+2:=by simp[W1]
 have hL1:W1.heap[w.heap.size+1]?=some (.loop (rc .ready none)):=by
  have:=World.alloc_heap_new (w.alloc (.deferred (some []))) (.loop (rc .ready none));rwa [World.size_alloc]at this
 have hD1:W1.heap[w.heap.size]?=some (.deferred (some [])):=(Below.heap_alloc _ _ _ (by simp)).trans (World.alloc_heap_new w _);have b1:Below w.heap.size w W1:=((Below.refl _ w).alloc (Nat.le_refl _) _).alloc (by simp) _
 refine⟨w.heap.size+1,[{ target:=.collected w.heap.size,args:=#[] }],W1,{ target:=.fn (.func gf) lb,args:=#[.func (.yield (w.heap.size+1)) #[] #[]] },W1,gf,#[.func (.yield (w.heap.size+1)) #[] #[]]++lb,W1,run_enterLoop_outer _ _ _ _ _,?_,fun _ _=>trivial,?_,fun h=>by simp[Fence.wide]at h,?_⟩
 .simp only[resolve,hg];simp[go_sem]
 .simp[invoke,go_sem,eg]
 refine callsIn_wide.2 ((hseq (w.heap.size+1) (fun q W=>I q W/\W.heap[w.heap.size+1]?=some (.loop (rc .ready none))/\W.heap[w.heap.size]?=some (.deferred (some []))) (fun q W=>Ix q W/\W.heap[w.heap.size+1]?=some (.loop (rc .done (some .ret)))/\W.heap[w.heap.size]?=some (.deferred (some []))) W1 b1 ?_ ?_ ?_ ?_ ⟨hI _ _ _ h0 b1,hL1,hD1⟩).mono ?_)
 .exact fun b hb=>⟨hK b (by omega),by omega⟩
 .exact fun q A B h hb=>⟨hI q A B h.1 (hb.mono (by omega)),(hb.block _ (by omega)).trans h.2.1,(hb.block _ (by omega)).trans h.2.2⟩
 .exact fun q A B h hb=>⟨hIx q A B h.1 (hb.mono (by omega)),(hb.block _ (by omega)).trans h.2.1,(hb.block _ (by omega)).trans h.2.2⟩
 .rintro q W hq ⟨hi,hl,hd⟩ hz;have hlt:w.heap.size+1<W.heap.size:=by omega
  refine⟨fn,_,assign,body,run_yield (P:=P) (args:=enc q) hl (hps q),roundIn_of_wpIn trivial (hassign _ q W _ ⟨_,run_beginRound hl rfl,?_⟩)⟩
  let Wb:=W.putObj (w.heap.size+1) (.loop { rc .ready none with state:=.busy })
  have zb:Wb.heap.size=W.heap.size:=by simp[Wb]
  have bb:Below w.heap.size W Wb:=dt (by omega) _;have hlb:Wb.heap[w.heap.size+1]?=some (.loop { rc .ready none with state:=.busy }):=World.putObj_heap_same hlt
  have hdb:Wb.heap[w.heap.size]?=some (.deferred (some [])):=(World.putObj_heap_other (by omega)).trans hd;have kb:az (fun b=>K b/\b≠w.heap.size+1) W Wb:=(az.refl _ W).putObj (fun h=>h.2 rfl) _
  refine wpIn_mono (hbody _ q Wb hq (hI q _ _ hi bb) (by omega)) ?_
  have fin:∀(j:Option Code) (W3:World),az K Wb W3->(Instr.endRound (w.heap.size+1) j).run P W3=.ok (.bool j.isNone) (W3.putObj (w.heap.size+1) (.loop (rc (if j.isNone then .ready else .done) j)))/\az (fun b=>K b/\b≠w.heap.size+1) W (W3.putObj (w.heap.size+1) (.loop (rc (if j.isNone then .ready else .done) j)))/\Below w.heap.size W3 (W3.putObj (w.heap.size+1) (.loop (rc (if j.isNone then .ready else .done) j)))/\(W3.putObj (w.heap.size+1) (.loop (rc (if j.isNone then .ready else .done) j))).heap[w.heap.size+1]?=some (.loop (rc (if j.isNone then .ready else .done) j))/\(W3.putObj (w.heap.size+1) (.loop (rc (if j.isNone then .ready else .done) j))).heap[w.heap.size]?=some (.deferred (some [])):=fun j W3 hk=>by
   have h3:=(hk.same _ (hK _ (by omega)) (by omega)).trans hlb;have hd3:=(hk.same _ (hK _ (by omega)) (by omega)).trans hdb
   refine⟨run_endRound (P:=P) j h3,?_,dt (by omega) _,World.putObj_heap_same ?_,(World.putObj_heap_other (by omega)).trans hd3⟩
   .exact(kb.trans (hk.less fun _ h=>h.1)).putObj (fun h=>h.2 rfl) _
   .have:=hk.size;omega
  intro e a3 W3 hp;match e,hp with
  | .normal,hp=>
   obtain⟨f1,f2,f3,f4,f5⟩:=fin none W3 hp.1;exact⟨_,_,f1,f2,.inl ⟨rfl,hI _ _ _ hp.2 f3,f4,f5⟩⟩
  | .ret,hp=>
   obtain⟨f1,f2,f3,f4,f5⟩:=fin (some .ret) W3 hp.1;exact⟨_,_,f1,f2,.inr ⟨rfl,hIx _ _ _ hp.2 f3,f4,f5⟩⟩
 .rintro e W2 ⟨⟨v,rfl⟩,⟨hi,hl,hd⟩ | ⟨q,hq,hi,hl,hd⟩⟩
  .exact⟨none,_,run_endLoop (P:=P) hl (by simp[rc]),hdone _ _ (Nat.le_refl _) (hI _ _ _ hi (dt (by omega) _)) ((World.putObj_heap_other (by omega)).trans hd)⟩
  .exact⟨some .ret,_,run_endLoop (P:=P) hl (by simp[rc]),wpIn_ret (hstop _ q _ (Nat.le_refl _) hq (hIx _ _ _ hi (dt (by omega) _)) ((World.putObj_heap_other (by omega)).trans hd))⟩
theorem DD{P:Program}{fn:Func}{R:Ending->World->Prop}{tmps:Array Value}{D:Nat}{W:World}{v:Value}(hD:W.heap[D]?=some (.deferred (some [])))
  (hr:(results fn tmps).run P (W.putObj D (.deferred none))=.ok v (W.putObj D (.deferred none))) (h:R (.returned v) (W.putObj D (.deferred none))):
  bodyPostM Fence.wide 0 P fn R .normal { tmps:=tmps,defers:=[{ target:=.collected D,args:=#[] }] } W:=
 ⟨by simp,.inl ⟨_,_,rfl,run_takeDeferred hD,v,hr,h⟩⟩
theorem fb{P:Program}{fn:Func}{R:Ending->World->Prop}{tmps:Array Value}{D:Nat}{W:World}{v:Value}(hD:W.heap[D]?=some (.deferred (some [])))
  (hr:(results fn tmps).run P (W.putObj D (.deferred none))=.ok v (W.putObj D (.deferred none))) (h:R (.returned v) (W.putObj D (.deferred none))):
  bodyPostM Fence.wide 0 P fn R .ret { tmps:=tmps,defers:=[{ target:=.collected D,args:=#[] }] } W:=
 ⟨by simp,.inl ⟨_,_,rfl,run_takeDeferred hD,v,hr,h⟩⟩
end Go.Proofs.YtleegaihbgbcjaaGreatDoor
namespace Go.Proofs.YtleegaihbgbcjaaGreatDoor
open Go.RowKit Go.Shelf Num Bit
attribute [local go_sem] Oper.semAt_some
theorem az.wd{K:Nat->Prop}{W W':World}{ao:Option Addr}{xs:List Nat}(h:az K W W')(hx:Wd W ao xs)(hK:∀p,ao=some p->0<xs.length->K p.block):Wd W' ao xs:=by
 intro h0;obtain⟨g,off,rfl,hl,hc⟩:=hx h0;have hk:=h.same g (hK _ rfl h0) hl;exact⟨g,off,rfl,Nat.lt_of_lt_of_le hl h.size,fun i hi=>(World.cell?_of_block (w:=W) hk).trans (hc i hi)⟩
theorem az.cel{K:Nat->Prop}{W W':World}{b:Nat}{cs:List Value}{T:TypeId}(h:az K W W')(hc:aa W b cs T)(hK:K b):aa W' b cs T:=(h.same b hK hc.lt).trans hc
theorem D6(t:Nat)(h:t<64):df ((2^t:Nat):Int)=(t:Int)+1:=by
 unfold df;rw[Int.toNat_natCast,u9 (2^t) t (Nat.pow_lt_pow_right (by decide) (by omega)) (by rw[Nat.div_self (Nat.two_pow_pos t)])];omega
theorem p_(Bb N:Nat)(ao:Option Addr)(xs:List Nat)(cap:Nat)(K:Nat->Prop)(w:World)(hx:Wd w ao xs)(hf:Fit xs)(hc:aa w Bb [.int .i64 N,.slice ao xs.length cap] 33)(hK:K Bb)(hKx:∀p,ao=some p->0<xs.length->K p.block)(hk:ar (N:Int) xs=true):
  jE prog 270 #[.pointer (some ⟨Bb,0,none⟩)] (plc (bitAt xs) N).length (fun q=>#[.int .i64 q,.int .i64 (gt (plc (bitAt xs) N) q:Nat)]) K w:=by
 intro l J Jx W hW hKW hJ hJx hY h0;refine(callsIn_wide (n:=0)).1 (callsIn_of_wp func270 rfl trivial ?_)
 simp only[ntmps270,List.size_toArray,List.length_cons,List.length_nil,Nat.reduceAdd,Nat.reduceSub,Array.replicate_succ,Array.replicate_zero,List.push_toArray,List.append_toArray,List.nil_append,List.cons_append]
 replace hc:=hc.kept hW;replace hx:=hx.keep hW;have q1:=hc.cell 1 rfl;obtain⟨_,hN,hlen,hhi⟩:=bp (N:Int) xs hk
 have HL:Hid (plc (bitAt xs) (64*xs.length)=plc (bitAt xs) N):=by
  show plc _ _=_;have hle:N<=64*xs.length:=by omega
  rw[show 64*xs.length=N+(64*xs.length-N)by omega];exact pS _ _ _ fun k h1 h2=>mG N xs hk k (by omega)
 have lx:xs.length<=16384:=by omega
 clear hlen hc;gi_wp2
 gi_loopw [3,4,5,6,10] (fun iv jv rv lv kv wr=>∃j c:Nat,j<=xs.length/\kv=.int .i64 j/\iv=.int .i64 c/\c<=1048576/\Hid (c=(plc (bitAt xs) (64*j)).length)/\Hid (J c wr)/\Hid (Wd wr ao xs)/\W.heap.size<=wr.heap.size) (fun _ _ _ _ k _=>xs.length-(intOf k).toNat)
 case atStart=>exact⟨0,0,Nat.zero_le _,rfl,rfl,by omega,by show 0=_;simp[plc],h0,hx,Nat.le_refl _⟩
 case round=>
  obtain⟨j,c,hj,rfl,rfl,hc0,hc,HJ,HX,hz⟩:=hrel;by_cases hlt:j<xs.length
  .have hlt2:(j:Int)<(xs.length:Int):=by omega
   obtain⟨g,off,rfl,hgl,hcell⟩:=HX.out (by omega);have cj:=hcell j hlt;have xl:=hf j;obtain⟨x,hxx⟩:∃x,Hid (x=gt xs j):=⟨_,rfl⟩;rw[<-hxx.out]at cj xl;gi_wp2
   gi_loopw [3,5,6] (fun iv rv lv wq=>∃p c r:Nat,p<=64/\iv=.int .i64 c/\rv=.int .u64 r/\r<18446744073709551616/\Hid (r=dy x p)/\c<=1048576/\Hid (c=(plc (bitAt xs) (64*j+p)).length)/\Hid (J c wq)/\Hid (Wd wq (some ⟨g,off,none⟩) xs)/\W.heap.size<=wq.heap.size) (fun _ rv _ _=>(intOf rv).toNat)
   case atStart=>exact⟨0,c,x,by omega,rfl,by rw[hxx.out],xl,by show x=_;rw[AW],hc0,hc,HJ,HX,hz⟩
   case round=>
    clear hcell cj;obtain⟨p,c,r,hp,rfl,rfl,hr,Hr,hc0,hc,HJ,HX,hz⟩:=hrel;by_cases hr0:r=0
    .subst hr0
     have HS:Hid (c=(plc (bitAt xs) (64*(j+1))).length):=by
      show c=_
      have e:=pS (bitAt xs) (64*j+p) (64-p) fun k h1 h2=>by
       rw[show k=64*j+(k-64*j)by omega,rK xs j _ (by omega),<-hxx.out];exact AV x p Hr.out.symm _ (by omega)
      rw[hc.out,show 64*(j+1)=64*j+p+(64-p)by omega,e]
     gi_wp2;exact⟨⟨j+1,c,by omega,by go_num,rfl,hc0,HS,HJ,HX,hz⟩,by simp only[intOf];omega⟩
    .have r0:((r:Int) != 0)=true:=by simp;omega
     obtain⟨t,h1,h2,h3,h4,h5,h6⟩:=AU x p xl (fun e=>hr0 (Hr.out.trans e));rw[<-Hr.out]at h5 h6
     have hneg:IntKind.u64.wrap (-(r:Int))=((18446744073709551616-r:Nat):Int):=by rw[IntKind.wrap_u64];omega
     have L:Hid (∀w0,Qx 271 #[.int .u64 (bits BinOp.and IntKind.u64 (r:Int) (IntKind.u64.wrap (-(r:Int))))] w0 (.int .i64 ((t:Int)+1))):=fun w0=>by
      rw[hneg,iT _ _ (by omega) (by omega) (by omega) (by omega),Int.toNat_natCast,Int.toNat_natCast,h5];have:=qt ((2^t:Nat):Int) (by omega) (by have:=iY t h2;omega) w0
      rw[D6 t h2]at this;exact this
     have hpl:plc (bitAt xs) (64*j+t)=plc (bitAt xs) (64*j+p):=by
      rw[show 64*j+t=64*j+p+(t-p)by omega];refine pS _ _ _ fun k e1 e2=>?_;rw[show k=64*j+(k-64*j)by omega,rK xs j _ (by omega),<-hxx.out];exact h4 _ (by omega) (by omega)
     have hbt:bitAt xs (64*j+t)=true:=by rw[rK xs j t h2,<-hxx.out];exact h3
     have htN:64*j+t<N:=by
      refine Nat.lt_of_not_le fun e=>?_;rw[mG N xs hk _ (by omega)]at hbt;cases hbt
     obtain⟨n1,n2,n3⟩:=BP (bitAt xs) (64*j+t) N htN hbt;rw[hpl,<-hc.out]at n1 n2 n3;have Y:=hY c wr n1 HJ.out hz;have n1':=n1
     rw[n2,show((64*j+t:Nat):Int)=(j:Int)*64+(t:Int)by omega]at Y;obtain⟨r',hr'⟩:∃r',Hid (r'=dy x (t+1)):=⟨_,rfl⟩
     have hand:bits BinOp.and IntKind.u64 (r:Int) ((r:Int)-1)=(r':Int):=by
      rw[show(r:Int)-1=((r-1:Nat):Int)by omega,iT _ _ (by omega) (by omega) (by omega) (by omega),Int.toNat_natCast,Int.toNat_natCast,h6,hr'.out]
     have hrl:r'<r:=by
      rw[hr'.out,<-h6];have:r&&&(r-1)<=r-1:=Nat.and_le_right;omega
     have HC:Hid (c+1=(plc (bitAt xs) (64*j+(t+1))).length):=n3.symm
     have c1:c+1<=1048576:=by
      have:=BR (bitAt xs) N;omega
     obtain⟨fn,tmps,assign,body,hy,hR⟩:=Y;clear h5 h6 hneg n1 n2 n3 hbt hpl h4 h3;gi_wp2_with fail;refine⟨trivial,rfl,?_⟩;refine(callsIn_wide.2 (L.out _)).mono ?_;rintro e w1 ⟨rfl,hw1⟩;rw[hw1];clear hw1 w1 L
     gi_wp2;refine⟨rfl,hR.mono ?_⟩;rintro e W3 ⟨hkp,⟨rfl,hJ3⟩ | ⟨rfl,hJx3⟩⟩
     .have HJ3:Hid (J (c+1) W3):=hJ3;have HX3:Hid (Wd W3 (some ⟨g,off,none⟩) xs):=hkp.wd HX.out hKx;have hz3:=Nat.le_trans hz hkp.size;clear hJ3 hkp HJ HX hY hJ hJx;gi_wp2
      exact⟨⟨t+1,c+1,r',by omega,by go_num,rfl,by omega,hr',c1,HC,HJ3,HX3,hz3⟩,by simp only[intOf];omega⟩
     .have HF:Hid (∃q,q<(plc (bitAt xs) N).length/\Jx q W3):=⟨c,n1',hJx3⟩;clear hJx3 hkp HJ HX hY hJ hJx;gi_wp2;refine bodyPost_ret (results_none rfl _ _ _) rfl ?_;exact⟨⟨_,rfl⟩,.inr HF.out⟩
  .obtain rfl:j=xs.length:=by omega
   have HE:Hid (J (plc (bitAt xs) N).length wr):=by
    show J _ _;rw[<-HL.out,<-hc.out];exact HJ.out
   clear HJ HX hY hJ hJx;gi_wp2;refine bodyPost_end (results_none rfl _ _ _) rfl ?_;exact⟨⟨_,rfl⟩,.inl HE.out⟩
theorem p9(N:Nat)(ao:Option Addr)(xs:List Nat)(cap:Nat)(w:World):
  Calls prog 227 #[.agg #[.int .i64 N,.slice ao xs.length cap]] w fun e w'=>e=.returned (.func (.func 270) #[] #[.pointer (some ⟨w.heap.size,0,none⟩)])/\w'=w.alloc (.cells #[.int .i64 N,.slice ao xs.length cap] 33):=by
 go_enter func227,ntmps227;go_wp2;go_ret;exact⟨rfl,rfl⟩
end Go.Proofs.YtleegaihbgbcjaaGreatDoor
namespace Go.Proofs.YtleegaihbgbcjaaGreatDoor
open Go.RowKit Num Bit
def lv(l:List Nat):List Value:=l.map fun n:Nat=>Value.int .i64 (n:Int)
theorem D7(x:Nat)(h0:0<x)(h:x<18446744073709551616):1<=Go.bitLen x:=by
 obtain⟨p,hp,h1,_,_,_⟩:=uU (x:Int) (by omega) (by omega) (by omega);unfold df at hp;rw[Int.toNat_natCast]at hp;omega
theorem oh(n m:Nat)(hn:n<=1048576)(hm:m<=n)(w:World):
  Qx 230 #[.int .i64 n,.int .i64 m] w (.int .i64 (wdF n m)):=by
 by_cases h0:m=0
 .subst h0;rw[show wdF n 0=0 from rfl];go_enter func230,ntmps230;go_wp2;go_ret;exact⟨rfl,rfl⟩
 .have m0:((m:Int)==0)=false:=by simp;omega
  have m1:¬(m:Int)=0:=by omega
  obtain⟨d,hd⟩:∃d,d=n/m:=⟨_,rfl⟩;have d1:1<=d:=by rw[hd];exact Nat.div_pos hm (by omega)
  have d2:d<=1048576:=by rw[hd];exact Nat.le_trans (Nat.div_le_self n m) hn
  have e1:(n:Int)/(m:Int)=(d:Int):=by rw[hd];exact(Int.natCast_ediv n m).symm
  have e2:(n:Int).tdiv (m:Int)=(d:Int):=by rw[Int.tdiv_eq_ediv_of_nonneg (by omega)];exact e1
  obtain⟨z,hz⟩:∃z,Go.bitLen d=z+1:=⟨Go.bitLen d-1,by have:=D7 d (by omega) (by omega);omega⟩;have hw:wdF n m=z:=by unfold wdF;rw[if_neg h0,<-hd,hz];rfl
  have lz_:=kG d 21 (by omega);rw[hw]
  have L:Hid (∀w0,Qx 271 #[.int .u64 d] w0 (.int .i64 ((z:Int)+1))):=fun w0=>by
   have:=qt (d:Int) (by omega) (by omega) w0;unfold df at this;rw[Int.toNat_natCast,hz]at this;exact this
  rw[hz]at lz_;clear hz hw hd;go_enter func230,ntmps230;go_wp2_with fail;refine mr (L.out _) fun w1 h1=>?_;rw[h1];clear h1 w1;go_wp2;go_ret;exact⟨rfl,rfl⟩
theorem aG{p:Prop}(h:p):Hid p:=h
def loN(n m:Nat):Nat:=if wdF n m=0 then 0 else m
theorem qI(n m:Nat)(hn:n<=1048576)(hm:m<=n)(w:World):
  Qx 226 #[.int .i64 n,.int .i64 m] w (.tuple #[.int .i64 (loN n m),.int .i64 (max (wdF n m) 1:Nat)]):=by
 have C:Hid (∀w0,Qx 230 #[.int .i64 n,.int .i64 m] w0 (.int .i64 (wdF n m))):=fun w0=>oh n m hn hm w0;unfold loN;have h20:=gT n m (by omega)
 generalize wdF n m=v at *;by_cases h0:v=0
 .subst h0;go_enter func226,ntmps226;go_wp2_with fail;refine mr (C.out _) fun w1 h1=>?_;rw[h1];clear h1 w1;go_wp2;go_ret2;exact⟨rfl,rfl⟩
 .have v0:(0:Int)<(v:Int):=by omega
  rw[if_neg h0,show max v 1=v by omega];go_enter func226,ntmps226;go_wp2_with fail;refine mr (C.out _) fun w1 h1=>?_;rw[h1];clear h1 w1;go_wp2;go_ret2;exact⟨rfl,rfl⟩
theorem wn(n m:Nat)(hn:n<=1048576)(hm:m<=n)(w:World):
  Qx 229 #[.int .i64 n,.int .i64 m] w (.int .i64 ((m+n/2^wdF n m+1:Nat):Int)):=by
 have C:Hid (∀w0,Qx 230 #[.int .i64 n,.int .i64 m] w0 (.int .i64 (wdF n m))):=fun w0=>oh n m hn hm w0;have h20:=gT n m (by omega);generalize wdF n m=v at *
 obtain⟨E,hE⟩:∃E,Hid (E=n/2^v):=⟨_,rfl⟩;have lE:E<=1048576:=by rw[hE.out];exact Nat.le_trans (Nat.div_le_self _ _) hn
 have sE:(n:Int)/2^v=(E:Int):=by rw[hE.out,Int.natCast_ediv,Int.natCast_pow];rfl
 rw[<-hE.out,show((m+E+1:Nat):Int)=(m:Int)+(E:Int)+1 by omega];have v64:(v:Int)<64:=by omega
 go_enter func229,ntmps229;go_wp2_with fail;refine mr (C.out _) fun w1 h1=>?_;rw[h1];clear h1 w1;go_wp2;go_ret;exact⟨rfl,rfl⟩
theorem wl(bit:Bool)(i o:Nat)(hi:i<=1048576)(ho:o<=i)(w:World):
  Qx 180 #[.bool bit,.int .i64 i,.int .i64 o] w (.int .i64 ((if bit then o else i-o:Nat):Int)):=by
 cases bit with
 | true=>
  go_enter func180,ntmps180;go_wp2;go_ret;exact⟨rfl,rfl⟩
 | false=>
  have e:Hid (((i-o:Nat):Int)=(i:Int)-(o:Int)):=by show((i-o:Nat):Int)=_;omega
  simp only[Bool.false_eq_true,if_false];rw[e.out];go_enter func180,ntmps180;go_wp2;go_ret;exact⟨rfl,rfl⟩
theorem AD(n:Nat)(f:Nat->Bool)(p:Nat)(hp:p<n):(rowOf n f).set (p/64) (gt (rowOf n f) (p/64)|||2^(p%64))=rowOf n (fun j=>f j||p==j):=by
 have hl:p/64<(rowOf n f).length:=by rw[cU];omega
 have hfit:=db n f
 have hg:∀i,gt ((rowOf n f).set (p/64) (gt (rowOf n f) (p/64)|||2^(p%64))) i=if i=p/64 then gt (rowOf n f) i|||2^(p%64)else gt (rowOf n f) i:=fun i=>by
  unfold gt;rw[List.getD_eq_getElem?_getD,List.getElem?_set];by_cases c:p/64=i
  .subst c;rw[if_pos rfl,if_pos hl,if_pos rfl];rfl
  .rw[if_neg c,if_neg (fun e=>c e.symm),List.getD_eq_getElem?_getD]
 refine jW n _ _ ?_ (by rw[List.length_set,cU]) ?_
 .intro i;rw[hg];split
  .exact Nat.or_lt_two_pow (n:=64) (hfit i) (Nat.pow_lt_pow_right (by decide) (by omega))
  .exact hfit i
 .intro i _;have hb:=eD n f i;unfold bitAt at hb⊢;rw[hg];by_cases c:i/64=p/64
  .rw[if_pos c,Nat.testBit_or,hb,Nat.testBit_two_pow];by_cases d:p=i
   .subst d;simp[hp]
   .have:¬p%64=i%64:=by omega
    have d2:(p==i)=false:=by simp[d]
    rw[d2];simp[this]
  .have d:¬p=i:=fun e=>c (by rw[e]);have d2:(p==i)=false:=by simp[d]
   rw[if_neg c,hb,d2];simp
theorem Own.drew'{w:World}{g:Nat}{ys:List Nat}(h:Own w g ys):Own w.drew g ys:=h
theorem aL.drew'{g:Nat}{a w:World}(h:aL g a w):aL g a w.drew:=⟨h.os,h.tape,h.output,h.size,h.block⟩
theorem wh(n:Nat)(f:Nat->Bool)(g cap p:Nat)(w:World)(hO:Own w g (rowOf n f))(hp:p<n)(hn:n<=1048576):
  Calls prog 203 #[.slice (some ⟨g,0,none⟩) (rowOf n f).length cap,.int .i64 p] w fun e w'=>(∃v,e=.returned v)/\Own w' g (rowOf n (fun j=>f j||p==j))/\aL g w w':=by
 have hl:p/64<(rowOf n f).length:=by rw[cU];omega
 have hl2:(p:Int)/64<((rowOf n f).length:Int):=by omega
 have hll:(rowOf n f).length<=16384:=by rw[cU];omega
 have RS:=aG (AD n f p hp);have SO:Hid (IntKind.u64.wrap ((2:Int)^(p%64))=((2^(p%64):Nat):Int)):=shl_one _ (by omega);have SP:Hid (2^(p%64)<18446744073709551616):=iY _ (by omega)
 have fx:=db n f;have xl:=fx (p/64);generalize rowOf n f=xs at *;have c1:=hO.cell (p/64) hl;have c2:=hO.frozen (p/64)
 have OR:Hid (bits BinOp.or IntKind.u64 (gt xs (p/64):Int) (IntKind.u64.wrap ((2:Int)^(p%64)))=((gt xs (p/64)|||2^(p%64):Nat):Int)):=by show _=_;rw[SO.out,u64_or_nat _ _ xl SP.out]
 have HO:=aG hO;generalize gt xs (p/64)=x at *;go_enter func203,ntmps203;go_region;refine bodyPost_end (results_none rfl _ _ _) rfl ?_;rw[OR.out,<-RS.out]
 exact⟨⟨_,rfl⟩,(HO.out.set _ _).drew',((aL.refl g w).set _ _).drew'⟩
open Go.RowKit Go.Shelf Num Bit
attribute [local go_sem] Oper.semAt_some
def plq(n mm:Nat)(xs:List Nat)(hh:Nat)(ys:List Nat)(q:Nat):Nat:=(gt (plc (bitAt ys) hh) q-q)*2^wdF n mm+numAt (wdF n mm) xs q
structure fD (n mm kn vn:Nat) (LM:Int) (xs:List Nat) (hh:Nat) (ys:List Nat):Prop where
 hn:n<=1048576
 hm:mm<=n
 ik:aZ (kn:Int) (vn:Int) LM xs=true
 ck:ar (hh:Int) ys=true
 on:(plc (bitAt ys) hh).length=mm
 hv:vn=max (wdF n mm) 1
 hk:kn=loN n mm
 hh:hh=mm+n/2^wdF n mm+1
theorem oC{n mm kn vn:Nat}{LM:Int}{xs:List Nat}{hh:Nat}{ys:List Nat}(h:fD n mm kn vn LM xs hh ys)(q:Nat)(hq:q<mm):gy (wdF n mm) ((List.range kn).map (numAt vn xs)) (plc (bitAt ys) hh) q=plq n mm xs hh ys q:=by
 unfold gy plq;congr 1;by_cases c:wdF n mm=0
 .rw[if_pos c,c];rfl
 .have e1:vn=wdF n mm:=by rw[h.hv];omega
  have e2:kn=mm:=by rw[h.hk];unfold loN;rw[if_neg c]
  rw[if_neg c,e1,e2]
  have e3:gt ((List.range mm).map (numAt (wdF n mm) xs)) q=numAt (wdF n mm) xs q:=by
   unfold gt;rw[List.getD_eq_getElem?_getD,List.getElem?_map,List.getElem?_range hq];rfl
  rw[e3];exact Nat.mod_eq_of_lt (gJ _ _)
theorem zG{n mm kn vn:Nat}{LM:Int}{xs:List Nat}{hh:Nat}{ys:List Nat}(h:fD n mm kn vn LM xs hh ys)(q:Nat)(hq:q<mm):bk LM xs ((q:Int)*(wdF n mm:Int)) (wdF n mm:Int)=0/\slcX LM xs ((q:Int)*(wdF n mm:Int)) (wdF n mm:Int)=numAt (wdF n mm) xs q:=by
 have h20:=gT n mm (by have:=h.hn;omega)
 have hc:ar LM xs=true:=by
  have:=h.ik;unfold aZ at this;rw[Bool.and_eq_true]at this;exact this.2
 have hLM:LM=(kn:Int)*(vn:Int):=by
  have:=h.ik;unfold aZ at this;rw[Bool.and_eq_true,decide_eq_true_eq]at this;exact this.1.2.2.2.symm
 have hE:bk LM xs ((q:Int)*(wdF n mm:Int)) (wdF n mm:Int)=0:=by
  unfold bk;have hq0:(0:Int)<=(q:Int)*(wdF n mm:Int):=Int.mul_nonneg (by omega) (by omega);rw[if_neg (by rw[hc];simp;omega),if_neg]
  have:(q:Int)*(wdF n mm:Int)+(wdF n mm:Int)<=LM:=by
   by_cases c:wdF n mm=0
   .rw[c,hLM];have:(0:Int)<=(kn:Int)*(vn:Int):=Int.mul_nonneg (by omega) (by omega);simpa using this
   .have e1:vn=wdF n mm:=by rw[h.hv];omega
    have e2:kn=mm:=by rw[h.hk];unfold loN;rw[if_neg c]
    rw[hLM,e1,e2];have:=ma mm (wdF n mm) q hq;rw[<-Int.natCast_mul,<-Int.natCast_mul];omega
  omega
 refine⟨hE,?_⟩;unfold slcX;rw[if_pos hE];unfold numAt;rw[Int.toNat_natCast,<-Int.natCast_mul,Int.toNat_natCast]
theorem uB(x:Nat)(h:x<=20971520): -9223372036854775808<=(x:Int)/\(x:Int)<=9223372036854775807:=⟨by omega,by omega⟩
theorem CY(x:Nat)(h:x<=20971520):wrap64 (x:Int)=(x:Int):=by unfold wrap64;omega
theorem zE(ao:Option Addr)(xs:List Nat)(cap:Nat)(fx:Fit xs)(q v:Nat)(LM:Int)(hq:q<=1048576)(hv:v<=20)(sE:bk LM xs ((q:Int)*(v:Int)) (v:Int)=0)(sX:slcX LM xs ((q:Int)*(v:Int)) (v:Int)=numAt v xs q)(w0:World)(h:Wd w0 ao xs):
  Qq 220 #[.agg #[.int .i64 LM,.slice ao xs.length cap],.int .i64 (wrap64 ((q:Int)*(v:Int))),.int .i64 v] w0 (.tuple #[.int .u64 (numAt v xs q:Nat),.int .i64 0]):=by
 have qn:q*v<=20971520:=Nat.le_trans (Nat.mul_le_mul hq hv) (by decide);rw[<-Int.natCast_mul]at sE sX⊢;obtain⟨n1,n2⟩:=uB _ qn;obtain⟨n3,n4⟩:=uB v (by omega);rw[CY _ qn]
 have:=mZ LM ao xs cap ((q*v:Nat):Int) v w0 h fx n1 n2 n3 n4;rw[sE,sX]at this;exact this
theorem az.more{K:Nat->Prop}{D:Nat}{a b c:World}(h:az K a b)(hb:Below D b c)(hD:a.heap.size<=D):az K a c:=
 ⟨hb.os.trans h.os,hb.tape.trans h.tape,hb.output.trans h.output,Nat.le_trans h.size hb.size,fun x hx hl=>(hb.block x (by omega)).trans (h.same x hx hl)⟩
theorem kg(n mm kn vn hh:Nat)(LM:Int)(ao:Option Addr)(xs:List Nat)(cap:Nat)(qo:Option Addr)(ys:List Nat)(dap:Nat)(K:Nat->Prop)(w:World)(Bx Bw:Nat)(F:fD n mm kn vn LM xs hh ys)
  (hx:Wd w ao xs) (fx:Fit xs) (hy:Wd w qo ys) (fy:Fit ys) (cx:aa w Bx [.int .i64 n,.int .i64 mm,.int .i64 kn,.int .i64 vn,.int .i64 LM,.slice ao xs.length cap,.int .i64 hh,.slice qo ys.length dap] 42) (cw:aa w Bw [.int .i64 (wdF n mm:Nat)] 3) (kx:K Bx) (kw:K Bw) (ka:∀p,ao=some p->0<xs.length->K p.block) (kq:∀p,qo=some p->0<ys.length->K p.block):
  jE prog 257 #[.pointer (some ⟨Bx,0,none⟩),.pointer (some ⟨Bw,0,none⟩)] mm (fun q=>#[.int .i64 q,.int .i64 (plq n mm xs hh ys q:Nat)]) K w:=by
 intro l J Jx W hW hKW hJ hJx hY h0;refine(callsIn_wide (n:=0)).1 (callsIn_of_wp_marks func257 rfl trivial ?_)
 simp only[ntmps257,List.size_toArray,List.length_cons,List.length_nil,Nat.reduceAdd,Nat.reduceSub,Array.replicate_succ,Array.replicate_zero,List.push_toArray,List.append_toArray,List.nil_append,List.cons_append]
 refine wpIn_wide.2 ?_;replace cx:=cx.kept hW;replace cw:=cw.kept hW;replace hx:=hx.keep hW;replace hy:=hy.keep hW
 have OC:Hid (∀w0,Calls prog 227 #[.agg #[.int .i64 hh,.slice qo ys.length dap]] w0 fun e w'=>e=.returned (.func (.func 270) #[] #[.pointer (some ⟨w0.heap.size,0,none⟩)])/\w'=w0.alloc (.cells #[.int .i64 hh,.slice qo ys.length dap] 33)):=fun w0=>p9 hh qo ys dap w0
 obtain⟨W1,hW1⟩:∃W1,W1=W.alloc (.cells #[.func (.yield l) #[] #[]] 304):=⟨_,rfl⟩;have b1:Below W.heap.size W W1:=by rw[hW1];exact below_alloc W _
 have z1:W1.heap.size=W.heap.size+1:=by rw[hW1];simp
 have cT:aa W1 W.heap.size [.func (.yield l) #[] #[]] 304:=by rw[hW1];exact aa.new W _ _
 have r6:=(cx.kept (below_alloc W (.cells #[.func (.yield l) #[] #[]] 304))).cell 6 rfl;have r7:=(cx.kept (below_alloc W (.cells #[.func (.yield l) #[] #[]] 304))).cell 7 rfl;go_wp2_with fail;rw[<-hW1];clear hW1
 refine(OC.out _).mono ?_;rintro e w' ⟨rfl,hw'⟩;have b2:Below W1.heap.size W1 w':=by rw[hw'];exact below_alloc W1 _
 have cB:aa w' W1.heap.size [.int .i64 hh,.slice qo ys.length dap] 33:=by rw[hw'];exact aa.new W1 _ _
 have z2:w'.heap.size=W.heap.size+2:=by rw[hw'];simp[z1]
 rw[z1];rw[z1]at cB;clear hw' r6 r7 OC;go_wp2;have b3:Below W.heap.size W w':=bg b1 b2;have cT2:=cT.kept b2;have hi_on:=F.on
 have G:=p_ (W.heap.size+1) hh qo ys dap (fun b=>K b/\b≠w'.heap.size+1) w' (hy.keep b3) fy cB ⟨hKW _ (by omega),by omega⟩ (fun p hp h0=>⟨kq p hp h0,by
  obtain⟨g,off,e,hg,_⟩:=hy h0;rw[e]at hp;cases hp;show g≠_
  omega⟩) F.ck
 rw[hi_on]at G
 refine iE (gf:=270) (lb:=#[.pointer (some ⟨W.heap.size+1,0,none⟩)]) (K:=K) rfl (enters_of func270 (by kernel_rfl) rfl) (fun _=>rfl) G (fun b hb=>hKW b (by omega))
  (fun q Wc=>J q Wc/\az K w' Wc) (fun q Wc=>Jx q Wc) (fun q A B h hb=>⟨hJ q A B h.1 (hb.mono (by omega)),h.2.more hb (Nat.le_refl _)⟩) (fun q A B h hb=>hJx q A B h (hb.mono (by omega))) ⟨hJ 0 W w' h0 b3,az.refl _ _⟩
  (fun q=>{ tmps:=#[.func (.yield l) #[] #[],.pointer (some ⟨Bx,0,none⟩),.pointer (some ⟨Bw,0,none⟩),.pointer (some ⟨W.heap.size,0,none⟩),.int .i64 (q:Nat),.int .i64 (gt (plc (bitAt ys) hh) q:Nat),undef,undef,.pointer (some ⟨Bx,6,none⟩),.agg #[.int .i64 hh,.slice qo ys.length dap],.func (.func 270) #[] #[.pointer (some ⟨W.heap.size+1,0,none⟩)],.int .i64 (q:Nat),.int .i64 (gt (plc (bitAt ys) hh) q:Nat),undef,undef,undef,undef,undef,undef,undef,undef,undef,undef,undef,undef,undef,undef,undef,undef,undef,undef,undef,undef,undef,undef,undef],defers:=[] }) ?assign ?body ?done ?stop
 case assign=>
  intro l1 q Wc K1 hK1;gi_wp2;exact hK1
 case body=>
  rintro l1 q Wc hq ⟨HJ,hk⟩ hz;have cx2:=hk.cel (cx.kept b3) kx;have cw2:=hk.cel (cw.kept b3) kw;have cT3:=hk.cel cT2 (hKW _ (Nat.le_refl _));have hx2:=hk.wd (hx.keep b3) ka;have Y:=hY q
  clear hY G cB cT cT2 b1 b2 z1 cx cw hx hy h0;have m4:=cx2.cell 4 rfl;have m5:=cx2.cell 5 rfl;have mw:=cw2.cell 0 rfl;have mt:=cT3.cell 0 rfl;have h20:=gT n mm (by have:=F.hn;omega)
  obtain⟨sE,sX⟩:=zG F q hq;have lowl:numAt (wdF n mm) xs q<2^wdF n mm:=gJ _ _
  have hck:ar LM xs=true:=by
   have:=F.ik;unfold aZ at this;rw[Bool.and_eq_true]at this;exact this.2
  have RS:=jd (bitAt ys) hh;have hge:=RS.step q 0 (by omega);rw[Nat.zero_add]at hge;have hll:=RS.1 q (by omega);have hhl:=(bp _ _ F.ck).2.1;have mn:=Nat.le_trans F.hm F.hn;unfold plq at Y
  generalize gt (plc (bitAt ys) hh) q=at_ at *;generalize wdF n mm=v at *;have SC:=fun w0 h=>zE ao xs cap fx q v LM (by omega) h20 sE sX w0 h;have SC:=aG SC;clear sE sX;generalize numAt v xs q=low at *
  obtain⟨d,hd⟩:∃d,Hid (d=at_-q):=⟨_,rfl⟩;have hd2:(at_:Int)-(q:Int)=(d:Int):=by rw[hd.out];omega
  have dl:d<=1048576:=by rw[hd.out];omega
  rw[<-hd.out]at Y;clear hge hll hhl RS hck
  have eA:((d*2^v+low:Nat):Int)=bits BinOp.or IntKind.i64 (IntKind.i64.wrap (IntKind.i64.wrap (d:Int)*2^v)) (IntKind.i64.wrap (low:Int)):=by
   have p20:2^v<=1048576:=Nat.pow_le_pow_right (show 0<2 by decide) h20;have pd:d*2^v<=1099511627776:=Nat.le_trans (Nat.mul_le_mul dl p20) (by decide)
   have e1:IntKind.i64.wrap (d:Int)=(d:Int):=by rw[IntKind.wrap_i64];omega
   have e2:(d:Int)*2^v=((d*2^v:Nat):Int):=by rw[Int.natCast_mul,Int.natCast_pow];rfl
   have e3:IntKind.i64.wrap ((d*2^v:Nat):Int)=((d*2^v:Nat):Int):=by rw[IntKind.wrap_i64];omega
   have e4:IntKind.i64.wrap (low:Int)=(low:Int):=by rw[IntKind.wrap_i64];omega
   rw[e1,e2,e3,e4,bits_join .i64 63 (by decide) r8 v _ _ (by omega) ?_ (by omega) (by omega) ?_ (by omega)]
   .rfl
   .rw[show((2:Int)^v)=((2^v:Nat):Int)by rw[Int.natCast_pow];rfl,<-Int.natCast_emod,Nat.mul_mod_left];rfl
   .rw[show((2:Int)^v)=((2^v:Nat):Int)by rw[Int.natCast_pow];rfl];omega
  rw[eA]at Y;clear eA;gi_wp2_with fail;refine⟨trivial,rfl,?_⟩;refine(CallsIn.inRound l1 (callsIn_wide.2 (SC.out _ hx2))).mono ?_;rintro e w1 ⟨rfl,hb⟩;replace cw2:=cw2.kept hb;replace cT3:=cT3.kept hb
  have kb:az K Wc w1:=az.of hb;have mw:=cw2.cell 0 rfl;have mt:=cT3.cell 0 rfl;clear cx2 m4 m5 SC;gi_wp2_with fail
  refine pL [] (fun w0=>w0.cell? ⟨W.heap.size,0,none⟩=some (.func (.yield l) #[] #[])/\w0.cell? ⟨Bw,0,none⟩=some (.int .i64 v)) (by kernel_rfl) ?_
  have hS:(fun w0:World=>w0.cell? ⟨W.heap.size,0,none⟩=some (.func (.yield l) #[] #[])/\w0.cell? ⟨Bw,0,none⟩=some (.int .i64 v)) w1.drew:=⟨mt,mw⟩
  have HJ1:=hJ q Wc w1.drew HJ ((hb.mono (show W.heap.size<=Wc.heap.size by omega)).drew);obtain⟨fn,tmps,assign,body,hy,hR⟩:=Y w1.drew hq HJ1 (by have:=hb.size;show W.heap.size<=w1.heap.size;omega);clear Y HJ1
  refine aI.take 0 (v:=?vv1) (bG _) rfl (by kernel_rfl) (by kernel_rfl) (by kernel_rfl) (by kernel_rfl) (by kernel_rfl) (fun _ _ _ h=>h) hS ?hy1 (by rfl) ?rest1
  case hy1=>
   intro w0 h0;have:=h0.1;go_simp;try with_reducible rfl
  simp only[Act.put,ak,aj,ai,ae,ah,ag];refine aI.take 1 (v:=?vv2) (bG _) rfl (by kernel_rfl) (by kernel_rfl) (by kernel_rfl) (by kernel_rfl) (by kernel_rfl) (fun _ _ _ h=>h) hS ?hy2 (by rfl) ?rest2
  case hy2=>
   intro w0 h0;go_simp;try with_reducible rfl
  simp only[Act.put,ak,aj,ai,ae,ah,ag];refine aI.take 2 (v:=?vv3) (bG _) rfl (by kernel_rfl) (by kernel_rfl) (by kernel_rfl) (by kernel_rfl) (by kernel_rfl) (fun _ _ _ h=>h) hS ?hy3 (by rfl) ?rest3
  case hy3=>
   intro w0 h0;go_simp;try with_reducible rfl
  simp only[Act.put,ak,aj,ai,ae,ah,ag];refine aI.take 3 (v:=?vv4) (bG _) rfl (by kernel_rfl) (by kernel_rfl) (by kernel_rfl) (by kernel_rfl) (by kernel_rfl) (fun _ _ _ h=>h) hS ?hy4 (by rfl) ?rest4
  case hy4=>
   intro w0 h0;go_simp;try with_reducible rfl
  simp only[Act.put,ak,aj,ai,ae,ah,ag];refine aI.take 4 (v:=?vv5) (bG _) rfl (by kernel_rfl) (by kernel_rfl) (by kernel_rfl) (by kernel_rfl) (by kernel_rfl) (fun _ _ _ h=>h) hS ?hy5 (by rfl) ?rest5
  case hy5=>
   intro w0 h0;go_simp;try with_reducible rfl
  simp only[Act.put,ak,aj,ai,ae,ah,ag];refine aI.take 5 (v:=?vv6) (bG _) rfl (by kernel_rfl) (by kernel_rfl) (by kernel_rfl) (by kernel_rfl) (by kernel_rfl) (fun _ _ _ h=>h) hS ?hy6 (by rfl) ?rest6
  case hy6=>
   intro w0 h0;have:=h0.2;go_simp;try with_reducible rfl
  simp only[Act.put,ak,aj,ai,ae,ah,ag];refine aI.take 6 (v:=?vv7) (bG _) rfl (by kernel_rfl) (by kernel_rfl) (by kernel_rfl) (by kernel_rfl) (by kernel_rfl) (fun _ _ _ h=>h) hS ?hy7 (by rfl) ?rest7
  case hy7=>
   intro w0 h0;go_simp;try with_reducible rfl
  simp only[Act.put,ak,aj,ai,ae,ah,ag];refine aI.take 7 (v:=?vv8) (bG _) rfl (by kernel_rfl) (by kernel_rfl) (by kernel_rfl) (by kernel_rfl) (by kernel_rfl) (fun _ _ _ h=>h) hS ?hy8 (by rfl) ?rest8
  case hy8=>
   intro w0 h0;go_simp;try with_reducible rfl
  simp only[Act.put,ak,aj,ai,ae,ah,ag];refine aI.take 8 (v:=?vv9) (bG _) rfl (by kernel_rfl) (by kernel_rfl) (by kernel_rfl) (by kernel_rfl) (by kernel_rfl) (fun _ _ _ h=>h) hS ?hy9 (by rfl) ?rest9
  case hy9=>
   intro w0 h0;go_simp;try with_reducible rfl
  simp only[Act.put,ak,aj,ai,ae,ah,ag];refine aI.take 9 (v:=?vv10) (bG _) rfl (by kernel_rfl) (by kernel_rfl) (by kernel_rfl) (by kernel_rfl) (by kernel_rfl) (fun _ _ _ h=>h) hS ?hy10 (by rfl) ?rest10
  case hy10=>
   intro w0 h0;go_simp;try with_reducible rfl
  simp only[Act.put,ak,aj,ai,ae,ah,ag];refine aI.one 10 (bG _) (by kernel_rfl) rfl (fun _ h=>by cases h) (by rfl) ?_;intro K2 hK2;go_simp;refine⟨rfl,RoundIn.mono hR ?_⟩
  rintro e W3 ⟨hkp,⟨rfl,hJ3⟩ | ⟨rfl,hJx3⟩⟩
  .have HE:Hid (az K Wc W3/\J (q+1) W3/\az K w' W3):=⟨kb.trans ⟨hkp.os,hkp.tape,hkp.output,hkp.size,hkp.same⟩,hJ3,hk.trans (kb.trans ⟨hkp.os,hkp.tape,hkp.output,hkp.size,hkp.same⟩)⟩
   have hS3:W3.cell? ⟨W.heap.size,0,none⟩=some (.func (.yield l) #[] #[])/\W3.cell? ⟨Bw,0,none⟩=some (.int .i64 v):=⟨(hkp.cel cT3.drew (hKW _ (Nat.le_refl _))).cell 0 rfl,(hkp.cel cw2.drew kw).cell 0 rfl⟩
   refine hK2.out _ _ (fun _=>hS3) ?_;clear hK2 K2;try simp only[Act.put,ak,aj,ai,ae,ah,ag]
   refine aI.take 11 (v:=?vv31) (bG _) rfl (by kernel_rfl) (by kernel_rfl) (by kernel_rfl) (by kernel_rfl) (by kernel_rfl) (fun _ _ _ h=>h) hS3 ?hy31 (by rfl) ?rest31
   case hy31=>
    intro w0 h0;go_simp;try with_reducible rfl
   simp only[Act.put,ak,aj,ai,ae,ah,ag];refine aI.done (by kernel_rfl) ?_ _;skip;gi_wp2;exact HE.out
  .have HE:Hid (az K Wc W3/\Jx q W3):=⟨kb.trans ⟨hkp.os,hkp.tape,hkp.output,hkp.size,hkp.same⟩,hJx3⟩
   have hS3:W3.cell? ⟨W.heap.size,0,none⟩=some (.func (.yield l) #[] #[])/\W3.cell? ⟨Bw,0,none⟩=some (.int .i64 v):=⟨(hkp.cel cT3.drew (hKW _ (Nat.le_refl _))).cell 0 rfl,(hkp.cel cw2.drew kw).cell 0 rfl⟩
   refine hK2.out _ _ (fun _=>hS3) ?_;clear hK2 K2;try simp only[Act.put,ak,aj,ai,ae,ah,ag]
   refine aI.take 11 (v:=?vv41) (bG _) rfl (by kernel_rfl) (by kernel_rfl) (by kernel_rfl) (by kernel_rfl) (by kernel_rfl) (fun _ _ _ h=>h) hS3 ?hy41 (by rfl) ?rest41
   case hy41=>
    intro w0 h0;go_simp;try with_reducible rfl
   simp only[Act.put,ak,aj,ai,ae,ah,ag];refine aI.done (by kernel_rfl) ?_ _;skip;gi_wp2;exact HE.out
 case done=>
  rintro D Wc hD ⟨HJ,hk⟩ hd;go_wp2;exact DD hd (results_none rfl _ _ _) ⟨⟨_,rfl⟩,.inl (hJ _ _ _ HJ (dt (by omega) _))⟩
 case stop=>
  rintro D q Wc hD hq HJ hd;go_wp2;exact fb hd (results_none rfl _ _ _) ⟨⟨_,rfl⟩,.inr ⟨q,hq,hJx _ _ _ HJ (dt (by omega) _)⟩⟩
theorem kP(n mm kn vn hh:Nat)(LM:Int)(ao:Option Addr)(xs:List Nat)(cap:Nat)(qo:Option Addr)(ys:List Nat)(dap:Nat)(hn:n<=1048576)(hm:mm<=n)(w:World):
  Calls prog 202 #[.agg #[.int .i64 n,.int .i64 mm,.int .i64 kn,.int .i64 vn,.int .i64 LM,.slice ao xs.length cap,.int .i64 hh,.slice qo ys.length dap]] w fun e w'=>e=.returned (.func (.func 257) #[] #[.pointer (some ⟨w.heap.size,0,none⟩),.pointer (some ⟨w.heap.size+1,0,none⟩)])/\aa w' w.heap.size [.int .i64 n,.int .i64 mm,.int .i64 kn,.int .i64 vn,.int .i64 LM,.slice ao xs.length cap,.int .i64 hh,.slice qo ys.length dap] 42/\aa w' (w.heap.size+1) [.int .i64 (wdF n mm:Nat)] 3/\w'.heap.size=w.heap.size+2/\Below w.heap.size w w':=by
 have C:Hid (∀w0,Qx 230 #[.int .i64 n,.int .i64 mm] w0 (.int .i64 (wdF n mm))):=fun w0=>oh n mm hn hm w0;generalize wdF n mm=v at *
 obtain⟨W,hW⟩:∃W,W=w.alloc (.cells #[.int .i64 n,.int .i64 mm,.int .i64 kn,.int .i64 vn,.int .i64 LM,.slice ao xs.length cap,.int .i64 hh,.slice qo ys.length dap] 42):=⟨_,rfl⟩
 have bW:=aM hW;have zW:W.heap.size=w.heap.size+1:=by rw[hW];simp
 have B1:=aU hW;go_enter func202,ntmps202;go_wp2_with fail;rw[<-hW];refine mr (C.out _) fun w1 h1=>?_;rw[h1];clear h1 w1 hW;have bA:=below_alloc W (.cells #[.int .i64 v] 3)
 have HZ:Hid (aa (W.alloc (.cells #[.int .i64 v] 3)) w.heap.size [.int .i64 n,.int .i64 mm,.int .i64 kn,.int .i64 vn,.int .i64 LM,.slice ao xs.length cap,.int .i64 hh,.slice qo ys.length dap] 42/\aa (W.alloc (.cells #[.int .i64 v] 3)) (w.heap.size+1) [.int .i64 v] 3/\(W.alloc (.cells #[.int .i64 v] 3)).heap.size=w.heap.size+2/\Below w.heap.size w (W.alloc (.cells #[.int .i64 v] 3))):=⟨B1.kept bA,by rw[<-zW];exact aa.new W _ _,by simp[zW],bg bW bA⟩
 clear B1 bA bW;go_wp2;go_ret;exact⟨rfl,HZ.out⟩
end Go.Proofs.YtleegaihbgbcjaaGreatDoor
namespace Go.Proofs.YtleegaihbgbcjaaGreatDoor
open Num Bit
abbrev bm:=FA
def rf(a b:FA):Bool:=decide (a.N=b.N)&&decide (a.M=b.M)&&(decide (a.k=b.k)&&decide (a.V=b.V)&&(decide (a.LM=b.LM)&&decide (a.xs=b.xs)))&&(decide (a.H=b.H)&&decide (a.ys=b.ys))
theorem re(a b:FA):rf a b=true↔a=b:=by
 obtain⟨a1,a2,a3,a4,a5,a6,a7,a8⟩:=a;obtain⟨b1,b2,b3,b4,b5,b6,b7,b8⟩:=b;unfold rf;simp only[Bool.and_eq_true,decide_eq_true_eq,FA.mk.injEq];constructor
 .rintro⟨⟨⟨rfl,rfl⟩,⟨rfl,rfl⟩,rfl,rfl⟩,rfl,rfl⟩;exact⟨rfl,rfl,rfl,rfl,rfl,rfl,rfl,rfl⟩
 .rintro⟨rfl,rfl,rfl,rfl,rfl,rfl,rfl,rfl⟩;exact⟨⟨⟨rfl,rfl⟩,⟨rfl,rfl⟩,rfl,rfl⟩,rfl,rfl⟩
def kOk9(a:bm):Bool:=
 match gM a with
 | some l=>rf a (cK a.N.toNat l)
 | none=>false
def kRow(a:bm):List Nat:=(gM a).getD []
def kBN9(a:bm):Int:=if kOk9 a=true then a.N else 0
def kBX9(a:bm):List Nat:=if kOk9 a=true then rowOf a.N.toNat (isIn (kRow a))else []
def kZ9(a:bm):Int:=if kOk9 a=true then a.LM+a.H+64 else 0
def kB9(N:Int)(xs:List Nat):bm:=if ar N xs=true then cK N.toNat (plc (bitAt xs) N.toNat)else ⟨0,0,0,0,0,[],0,[]⟩
def kE9(N:Int)(xs:List Nat):Int:=if ar N xs=true then 0 else 2
theorem qw(a:bm)(h:kOk9 a=true):gM a=some (kRow a)/\a=cK a.N.toNat (kRow a):=by
 unfold kOk9 at h;unfold kRow;cases e:gM a with
 | none=>rw[e]at h;cases h
 | some l=>
  rw[e]at h;exact⟨rfl,(re _ _).1 h⟩
theorem GU(n w:Nat)(lo hi:List Nat):∀q out,eO n w lo hi q=some out->∀j,j<q->gt out j=gy w lo hi j:=by
 intro q;induction q with
 | zero=>intro out _ j hj;omega
 | succ q ih=>
  intro out h j hj;rw[eO]at h;cases hq:eO n w lo hi q with
  | none=>rw[hq]at h;cases h
  | some o=>
   rw[hq]at h;have hlen:=(rd n w lo hi q o hq).1;simp only at h;split at h
   .cases h
   .obtain rfl:=Option.some.inj h;by_cases c:j<q
    .rw[js o _ j (by omega)];exact ih o hq j c
    .obtain rfl:j=o.length:=by omega
     rw[kO,hlen]
theorem v_(m:Nat)(f:Nat->Nat)(i:Nat)(h:i<m):gt ((List.range m).map f) i=f i:=by
 unfold gt;rw[List.getD_eq_getElem?_getD,List.getElem?_map,List.getElem?_range h];rfl
theorem GT(n w:Nat)(lo hi:List Nat):∀m,(∀q,q<m->gy w lo hi q<n/\(0<q->gy w lo hi (q-1)<gy w lo hi q))->eO n w lo hi m=some ((List.range m).map (gy w lo hi)):=by
 intro m;induction m with
 | zero=>intro _;rfl
 | succ m ih=>
  intro h;rw[eO,ih (fun q hq=>h q (by omega))];simp only;obtain⟨h1,h2⟩:=h m (by omega);rw[if_neg,List.range_succ,List.map_append]
  .rfl
  .rintro(c | ⟨c1,c2⟩)
   .omega
   .rw[v_ m _ _ (by omega)]at c2;have:=h2 c1;omega
def o6(n mm:Nat)(p:Nat->Nat):Prop:=∀q,q<mm->p q<n/\(0<q->p (q-1)<p q)
theorem jj(n mm kn vn hh:Nat)(LM:Int)(xs ys:List Nat)(h:kOk9 ⟨n,mm,kn,vn,LM,xs,hh,ys⟩=true):
  fD n mm kn vn LM xs hh ys/\(kRow ⟨n,mm,kn,vn,LM,xs,hh,ys⟩).length=mm/\(∀q,q<mm->plq n mm xs hh ys q=gt (kRow ⟨n,mm,kn,vn,LM,xs,hh,ys⟩) q)/\aR (kRow ⟨n,mm,kn,vn,LM,xs,hh,ys⟩) n:=by
 obtain⟨h1,h2⟩:=qw _ h;generalize kRow ⟨n,mm,kn,vn,LM,xs,hh,ys⟩=l at *;unfold gM at h1;simp only[Int.toNat_natCast]at h1;split at h1
 .rename_i c;obtain⟨⟨c1,c2,c3,c4⟩,c5,c6,c7,c8⟩:=c;have c7:(plc (bitAt ys) hh).length=mm:=by omega
  obtain⟨l1,l2⟩:=rd _ _ _ _ _ _ h1;rw[c7]at l1;have l3:=GU _ _ _ _ _ _ h1;rw[c7]at l3;simp only[Int.toNat_natCast,cK,FA.mk.injEq,l1]at h2;obtain⟨-, -,e3,e4, -, -,e7, -⟩:=h2
  have F:fD n mm kn vn LM xs hh ys:=by
   refine⟨by omega,by omega,c5,c6,c7,by omega,?_,?_⟩
   .unfold loN;by_cases c:wdF n mm=0
    .rw[if_pos c];rw[c]at e3;have:loP l 0=[]:=rfl;rw[this]at e3;simp at e3;omega
    .rw[if_neg c];rw[jM l _ (by omega)]at e3;omega
   .unfold hiN at e7;rw[l1]at e7;omega
  exact⟨F,l1,fun q hq=>by rw[l3 q hq,oC F q hq],l2⟩
 .cases h1
theorem ua(n mm:Nat)(xs:List Nat)(hh:Nat)(ys:List Nat)(q:Nat):plq n mm xs hh ys q/2^wdF n mm=gt (plc (bitAt ys) hh) q-q/\plq n mm xs hh ys q%2^wdF n mm=numAt (wdF n mm) xs q:=by
 unfold plq;have h:numAt (wdF n mm) xs q<2^wdF n mm:=gJ _ _;have hp:=Nat.two_pow_pos (wdF n mm);rw[Nat.mul_comm,Nat.mul_add_div hp,Nat.mul_add_mod,Nat.mod_eq_of_lt h,Nat.div_eq_of_lt h];exact⟨rfl,rfl⟩
theorem vC(f:Nat->Bool)(n j:Nat):isIn (plc f n) j=(decide (j<n)&&f j):=by
 rw[Bool.eq_iff_iff,uL,uK,Bool.and_eq_true,decide_eq_true_eq]
theorem GC(n mm kn vn hh:Nat)(LM:Int)(xs ys:List Nat)(fx:Fit xs)(fy:Fit ys)(F:fD n mm kn vn LM xs hh ys)(G:o6 n mm (plq n mm xs hh ys)):kOk9 ⟨n,mm,kn,vn,LM,xs,hh,ys⟩=true:=by
 have hd:eO n (wdF n mm) ((List.range kn).map (numAt vn xs)) (plc (bitAt ys) hh) mm=some ((List.range mm).map (plq n mm xs hh ys)):=by
  rw[GT _ _ _ _ mm]
  .congr 1;refine List.map_congr_left fun q hq=>?_;exact oC F q (List.mem_range.1 hq)
  .intro q hq;rw[oC F q hq];obtain⟨g1,g2⟩:=G q hq;refine⟨g1,fun h0=>?_⟩;rw[oC F (q-1) (by omega)];exact g2 h0
 have hrow:gM ⟨n,mm,kn,vn,LM,xs,hh,ys⟩=some ((List.range mm).map (plq n mm xs hh ys)):=by
  unfold gM;simp only[Int.toNat_natCast,F.on];rw[if_pos]
  .exact hd
  .refine⟨⟨by omega,by have:=F.hn;omega,by omega,by have:=F.hm;omega⟩,F.ik,F.ck,trivial,?_⟩;by_cases c:wdF n mm=0
   .exact .inl c
   .right;rw[List.length_map,List.length_range,F.hk];unfold loN;rw[if_neg c]
 unfold kOk9;rw[hrow];simp only[Int.toNat_natCast];rw[re];obtain⟨l,hl⟩:∃l,l=(List.range mm).map (plq n mm xs hh ys):=⟨_,rfl⟩;have ll:l.length=mm:=by rw[hl];simp
 have lg:∀q,q<mm->gt l q=plq n mm xs hh ys q:=fun q hq=>by rw[hl];exact v_ mm _ q hq
 rw[<-hl];have RS:=jd (bitAt ys) hh
 have e_hi:hiP l (wdF n mm)=plc (bitAt ys) hh:=by
  refine Bit.list_ext _ _ (by rw[kA,ll,F.on]) fun i hi=>?_;rw[kA,ll]at hi;rw[kM l _ i (by omega),lg i hi,(ua n mm xs hh ys i).1];have:=RS.step i 0 (by rw[F.on];omega)
  rw[Nat.zero_add]at this;omega
 obtain⟨v1,v2,v3,v4,v5,v6,v7,v8⟩:=iL _ _ _ _ F.ik
 have e_lo:(loP l (wdF n mm)).length=kn:=by
  rw[F.hk];unfold loN;by_cases c:wdF n mm=0
  .rw[if_pos c,c];rfl
  .rw[if_neg c,jM l _ (by omega),ll]
 have e_xs:mkS (loP l (wdF n mm)) vn kn=xs:=by
  have hx:=kX LM xs fx v5;rw[hx];unfold mkS;rw[e_lo,show LM.toNat=kn*vn by rw[<-v4,<-Int.natCast_mul,Int.toNat_natCast]];refine dc _ _ _ fun j hj=>?_;rw[decide_eq_true hj,Bool.true_and]
  have hw:¬wdF n mm=0:=fun c=>by
   have h0:kn=0:=by rw[F.hk];unfold loN;rw[if_pos c]
   rw[h0,Nat.zero_mul]at hj;omega
  have e1:vn=wdF n mm:=by rw[F.hv];omega
  have e2:kn=mm:=by rw[F.hk];unfold loN;rw[if_neg hw]
  have hv0:0<vn:=by omega
  have hq:j/vn<mm:=by rw[<-e2];exact(Nat.div_lt_iff_lt_mul hv0).2 hj
  have hmod:j%vn<vn:=Nat.mod_lt _ hv0;rw[ox l _ _ (by omega) (by omega),lg _ hq,(ua n mm xs hh ys _).2,<-e1];unfold numAt
  rw[fF,decide_eq_true hmod,Bool.true_and,Nat.mul_comm,Nat.div_add_mod]
 unfold cK;simp only[FA.mk.injEq,ll];have hv:((max (wdF n mm) 1:Nat):Int)=(vn:Int):=by rw[F.hv]
 have hv2:max (wdF n mm) 1=vn:=F.hv.symm;refine⟨trivial,trivial,by rw[e_lo],hv.symm,?_,?_,?_,?_⟩
 .rw[e_lo,hv,v4]
 .rw[hv2,e_lo,e_xs]
 .unfold hiN;rw[ll,F.hh]
 .rw[e_hi];have e3:hiN l n (wdF n mm)=hh:=by unfold hiN;rw[ll,F.hh]
  rw[e3];have hy:=kX (hh:Int) ys fy F.ck;rw[Int.toNat_natCast]at hy;rw[dc hh _ (bitAt ys) fun j hj=>by rw[vC,decide_eq_true hj,Bool.true_and]];exact hy
open Go.RowKit Go.Shelf Num Bit
attribute [local go_sem] Oper.semAt_some
theorem Wd.blk{w:World}{ao:Option Addr}{xs:List Nat}(h:Wd w ao xs){p:Addr}(hp:ao=some p)(h0:0<xs.length):p.block<w.heap.size:=by
 obtain⟨g,off,e,hg,_⟩:=h h0;rw[e]at hp;cases hp;exact hg
theorem aa.at{w:World}{b b':Nat}{cs:List Value}{T:TypeId}(h:aa w b cs T)(e:b=b'):aa w b' cs T:=e ▸ h
theorem aa.put{w:World}{b D:Nat}{cs:List Value}{T:TypeId}(h:aa w b cs T)(o:Obj)(e:b≠D):aa (w.putObj D o) b cs T:=(World.putObj_heap_other e).trans h
theorem Fo{l:List Nat}{n:Nat}(hr:aR l n)(i q:Nat)(hq:q<l.length)(h1:∀j,j<q->gt l j<i)(h2:i<=gt l q):isIn l i=decide (gt l q=i):=by
 by_cases c:gt l q=i
 .rw[decide_eq_true c,ff];exact⟨q,hq,c⟩
 .rw[decide_eq_false c];refine Bool.eq_false_iff.2 fun h=>?_;obtain⟨j,hj,e⟩:=(ff l i).1 h;by_cases d:j<q
  .have:=h1 j d;omega
  .by_cases e2:j=q
   .subst e2;exact c e
   .have:=hr.lt (show q<j by omega) hj;omega
theorem Fm{l:List Nat}(i:Nat)(h1:∀j,j<l.length->gt l j<i):isIn l i=false:=by
 refine Bool.eq_false_iff.2 fun h=>?_;obtain⟨j,hj,e⟩:=(ff l i).1 h;have:=h1 j hj;omega
theorem F_(n mm kn vn hh:Nat)(LM:Int)(ao:Option Addr)(xs:List Nat)(cap:Nat)(qo:Option Addr)(ys:List Nat)(dap:Nat)(l:List Nat)(w:World)(F:fD n mm kn vn LM xs hh ys)(hx:Wd w ao xs)(fx:Fit xs)(hy:Wd w qo ys)(fy:Fit ys)(hl:l.length=mm)(hg:∀q,q<mm->plq n mm xs hh ys q=gt l q)(hr:aR l n)(i:Nat)(hi:i<=1048576):
  Qq 177 #[.agg #[.int .i64 n,.int .i64 mm,.int .i64 kn,.int .i64 vn,.int .i64 LM,.slice ao xs.length cap,.int .i64 hh,.slice qo ys.length dap],.int .i64 i] w (.bool (isIn l i)):=by
 refine(callsIn_wide (n:=0)).1 (callsIn_of_wp_marks func177 rfl trivial ?_)
 simp only[ntmps177,List.size_toArray,List.length_cons,List.length_nil,Nat.reduceAdd,Nat.reduceSub,Array.replicate_succ,Array.replicate_zero,List.push_toArray,List.append_toArray,List.nil_append,List.cons_append]
 refine wpIn_wide.2 ?_
 have PC:Hid (∀w0,Calls prog 202 #[.agg #[.int .i64 n,.int .i64 mm,.int .i64 kn,.int .i64 vn,.int .i64 LM,.slice ao xs.length cap,.int .i64 hh,.slice qo ys.length dap]] w0 fun e w'=>e=.returned (.func (.func 257) #[] #[.pointer (some ⟨w0.heap.size,0,none⟩),.pointer (some ⟨w0.heap.size+1,0,none⟩)])/\aa w' w0.heap.size [.int .i64 n,.int .i64 mm,.int .i64 kn,.int .i64 vn,.int .i64 LM,.slice ao xs.length cap,.int .i64 hh,.slice qo ys.length dap] 42/\aa w' (w0.heap.size+1) [.int .i64 (wdF n mm:Nat)] 3/\w'.heap.size=w0.heap.size+2/\Below w0.heap.size w0 w'):=fun w0=>kP n mm kn vn hh LM ao xs cap qo ys dap F.hn F.hm w0
 obtain⟨W1,hW1⟩:∃W1,W1=((w.alloc (.cells #[.int .i64 n,.int .i64 mm,.int .i64 kn,.int .i64 vn,.int .i64 LM,.slice ao xs.length cap,.int .i64 hh,.slice qo ys.length dap] 42)).alloc (.cells #[.int .i64 i] 3)).alloc (.cells #[.bool false] 4):=⟨_,rfl⟩
 have z1:W1.heap.size=w.heap.size+3:=by rw[hW1];simp
 have b1:Below w.heap.size w W1:=by rw[hW1];exact(((below_alloc w _).alloc (by simp only[World.size_alloc];omega) _).alloc (by simp only[World.size_alloc];omega) _)
 have c0:aa W1 (w.heap.size+0) [.int .i64 n,.int .i64 mm,.int .i64 kn,.int .i64 vn,.int .i64 LM,.slice ao xs.length cap,.int .i64 hh,.slice qo ys.length dap] 42:=by rw[hW1];exact((((aa.new _ _ _).alloc _).alloc _)).at (by simp)
 have c1:aa W1 (w.heap.size+1) [.int .i64 i] 3:=by rw[hW1];exact(((aa.new _ _ _).alloc _)).at (by simp)
 have c2:aa W1 (w.heap.size+2) [.bool false] 4:=by rw[hW1];exact((aa.new _ _ _)).at (by simp)
 go_wp2_with fail;rw[<-hW1];clear hW1;refine(PC.out _).mono ?_;rintro e w' ⟨rfl,cx,cw,z2,b2⟩;rw[z1]at cx cw z2;rw[z1];have b3:Below w.heap.size w w':=bg b1 b2;replace c0:=c0.kept b2
 replace c1:=c1.kept b2;replace c2:=c2.kept b2;go_wp2;clear b1 b2 PC
 have G:=(kg n mm kn vn hh LM ao xs cap qo ys dap (fun b=>b≠w.heap.size+2/\b≠w'.heap.size+1) w' (w.heap.size+3) (w.heap.size+4) F (hx.keep b3) fx (hy.keep b3) fy cx cw (by omega) (by omega) (fun p hp h0=>by have:=hx.blk hp h0;omega) (fun p hp h0=>by have:=hy.blk hp h0;omega)).enc (enc':=fun q=>#[.int .i64 q,.int .i64 (gt l q:Nat)]) (fun q hq=>by rw[hg q hq])
 refine iE (gf:=257) (lb:=#[.pointer (some ⟨w.heap.size+3,0,none⟩),.pointer (some ⟨w.heap.size+4,0,none⟩)]) (K:=fun b=>b≠w.heap.size+2) rfl (enters_of func257 (by kernel_rfl) rfl) (fun _=>rfl) G (fun b hb=>by omega)
  (fun q Wc=>az (fun b=>b≠w.heap.size+2) w' Wc/\aa Wc (w.heap.size+2) [.bool false] 4/\∀j,j<q->gt l j<i) (fun q Wc=>az (fun b=>b≠w.heap.size+2) w' Wc/\aa Wc (w.heap.size+2) [.bool (isIn l i)] 4) (fun q A B h hb=>⟨h.1.more hb (Nat.le_refl _),h.2.1.keep hb (by omega),h.2.2⟩) (fun q A B h hb=>⟨h.1.more hb (Nat.le_refl _),h.2.keep hb (by omega)⟩) ⟨az.refl _ _,c2,fun j hj=>absurd hj (by omega)⟩
  (fun q=>{ tmps:=#[.agg #[.int .i64 n,.int .i64 mm,.int .i64 kn,.int .i64 vn,.int .i64 LM,.slice ao xs.length cap,.int .i64 hh,.slice qo ys.length dap],.int .i64 i,.pointer (some ⟨w.heap.size,0,none⟩),.pointer (some ⟨w.heap.size+1,0,none⟩),.pointer (some ⟨w.heap.size+2,0,none⟩),undef,.int .i64 (gt l q:Nat),.agg #[.int .i64 n,.int .i64 mm,.int .i64 kn,.int .i64 vn,.int .i64 LM,.slice ao xs.length cap,.int .i64 hh,.slice qo ys.length dap],.func (.func 257) #[] #[.pointer (some ⟨w.heap.size+3,0,none⟩),.pointer (some ⟨w.heap.size+4,0,none⟩)],.int .i64 (q:Nat),.int .i64 (gt l q:Nat),undef,undef,undef,undef,undef,undef],defers:=[] }) ?assign ?body ?done ?stop
 case assign=>
  intro l1 q Wc K1 hK1;gi_wp2;exact hK1
 case body=>
  rintro l1 q Wc hq ⟨hk,cR,hlt⟩ hz;have cI:=(hk.cel c1 (by omega)).cell 0 rfl;have r0:=cR.cell 0 rfl;have r1:=cR.frozen 0;clear G;have HV:=aG (Fo hr i q (by omega) hlt);by_cases hge:i<=gt l q
  .have hge2:(i:Int)<=(gt l q:Int):=by omega
   have HX:Hid (az (fun b=>b≠w.heap.size+2) Wc (Wc.setCell ⟨w.heap.size+2,0,none⟩ (.bool (isIn l i)))/\az (fun b=>b≠w.heap.size+2) w' (Wc.setCell ⟨w.heap.size+2,0,none⟩ (.bool (isIn l i)))/\aa (Wc.setCell ⟨w.heap.size+2,0,none⟩ (.bool (isIn l i))) (w.heap.size+2) [.bool (isIn l i)] 4):=⟨(az.refl _ _).setCell (fun h=>h rfl) _,hk.setCell (fun h=>h rfl) _,cR.set 0 _⟩
   rw[HV.out hge]at HX;rw[show decide (gt l q=i)=((gt l q:Int)==(i:Int))by rw[Bool.eq_iff_iff];simp;omega]at HX;gi_wp2;refine⟨HX.out.1,HX.out.2.1,?_⟩
   rw[HV.out hge,show decide (gt l q=i)=((gt l q:Int)==(i:Int))by rw[Bool.eq_iff_iff];simp;omega];exact HX.out.2.2
  .have hge2:¬(i:Int)<=(gt l q:Int):=by omega
   gi_wp2
   exact⟨az.refl _ _,hk,cR,fun j hj=>by
    by_cases e:j=q
    .subst e;omega
    .exact hlt j (by omega)⟩
 case done=>
  rintro D Wc hD ⟨hk,cR,hlt⟩ hd;have r0:=cR.cell 0 rfl;have r1:=cR.frozen 0;have hB:=aG ((hk.below (B:=w.heap.size) (fun x h=>by omega) (by omega)))
  have HE:=aG (Fm (l:=l) i (fun j hj=>hlt j (by omega)));have hb:=aG (hB.out.setCell (p:=⟨w.heap.size+2,0,none⟩) (show w.heap.size<=w.heap.size+2 by omega) (.bool false))
  have cS:=aG (cR.set 0 (.bool false));have hd2:=aG ((Below.heap_setCell Wc ⟨w.heap.size+2,0,none⟩ (.bool false) D (show D≠w.heap.size+2 by omega)).trans hd);clear hd hk;go_wp2
  have cR2:=(cS.out.put (.deferred none) (show w.heap.size+2≠D by omega)).cell 0 rfl
  exact fb hd2.out (v:=.bool (isIn l i)) (by rw[HE.out];simp[results,Tryz.results177,go_sem,cR2]) ⟨rfl,b3.trans (hb.out.trans (dt (by omega) _))⟩
 case stop=>
  rintro D q Wc hD hq ⟨hk,cR⟩ hd;go_wp2;have cR2:=(cR.put (.deferred none) (show w.heap.size+2≠D by omega)).cell 0 rfl
  exact fb hd (v:=.bool (isIn l i)) (by simp[results,Tryz.results177,go_sem,cR2]) ⟨rfl,b3.trans ((hk.below (fun x h=>by omega) (by omega)).trans (dt (by omega) _))⟩
structure o_ (l:List Nat) (i c:Nat):Prop where
 le:c<=l.length
 lo:∀j,j<c->gt l j<i
 hi:∀j,c<=j->j<l.length->i<=gt l j
theorem o_.eq{l:List Nat}{i c q:Nat}(h:o_ l i c)(hq:q<=l.length)(h1:∀j,j<q->gt l j<i)(h2:q<l.length->i<=gt l q):c=q:=by
 by_cases a:c<q
 .have:=h1 c a;have:=h.hi c (Nat.le_refl _) (by omega);omega
 .by_cases b:q<c
  .have:=h.lo q b;have:=h.le;have:=h2 (by omega);omega
  .omega
theorem FX(n mm kn vn hh:Nat)(LM:Int)(ao:Option Addr)(xs:List Nat)(cap:Nat)(qo:Option Addr)(ys:List Nat)(dap:Nat)(l:List Nat)(w:World)(F:fD n mm kn vn LM xs hh ys)(hx:Wd w ao xs)(fx:Fit xs)(hy:Wd w qo ys)(fy:Fit ys)(hl:l.length=mm)(hg:∀q,q<mm->plq n mm xs hh ys q=gt l q)(hr:aR l n)(i:Nat)(hi:i<=1048576)(c:Nat)(hc:o_ l i c):
  Qq 181 #[.agg #[.int .i64 n,.int .i64 mm,.int .i64 kn,.int .i64 vn,.int .i64 LM,.slice ao xs.length cap,.int .i64 hh,.slice qo ys.length dap],.int .i64 i] w (.int .i64 c):=by
 refine(callsIn_wide (n:=0)).1 (callsIn_of_wp_marks func181 rfl trivial ?_)
 simp only[ntmps181,List.size_toArray,List.length_cons,List.length_nil,Nat.reduceAdd,Nat.reduceSub,Array.replicate_succ,Array.replicate_zero,List.push_toArray,List.append_toArray,List.nil_append,List.cons_append]
 refine wpIn_wide.2 ?_
 have PC:Hid (∀w0,Calls prog 202 #[.agg #[.int .i64 n,.int .i64 mm,.int .i64 kn,.int .i64 vn,.int .i64 LM,.slice ao xs.length cap,.int .i64 hh,.slice qo ys.length dap]] w0 fun e w'=>e=.returned (.func (.func 257) #[] #[.pointer (some ⟨w0.heap.size,0,none⟩),.pointer (some ⟨w0.heap.size+1,0,none⟩)])/\aa w' w0.heap.size [.int .i64 n,.int .i64 mm,.int .i64 kn,.int .i64 vn,.int .i64 LM,.slice ao xs.length cap,.int .i64 hh,.slice qo ys.length dap] 42/\aa w' (w0.heap.size+1) [.int .i64 (wdF n mm:Nat)] 3/\w'.heap.size=w0.heap.size+2/\Below w0.heap.size w0 w'):=fun w0=>kP n mm kn vn hh LM ao xs cap qo ys dap F.hn F.hm w0
 obtain⟨W1,hW1⟩:∃W1,W1=((w.alloc (.cells #[.int .i64 n,.int .i64 mm,.int .i64 kn,.int .i64 vn,.int .i64 LM,.slice ao xs.length cap,.int .i64 hh,.slice qo ys.length dap] 42)).alloc (.cells #[.int .i64 i] 3)).alloc (.cells #[.int .i64 0] 3):=⟨_,rfl⟩
 have z1:W1.heap.size=w.heap.size+3:=by rw[hW1];simp
 have b1:Below w.heap.size w W1:=by rw[hW1];exact(((below_alloc w _).alloc (by simp only[World.size_alloc];omega) _).alloc (by simp only[World.size_alloc];omega) _)
 have c0:aa W1 (w.heap.size+0) [.int .i64 n,.int .i64 mm,.int .i64 kn,.int .i64 vn,.int .i64 LM,.slice ao xs.length cap,.int .i64 hh,.slice qo ys.length dap] 42:=by rw[hW1];exact((((aa.new _ _ _).alloc _).alloc _)).at (by simp)
 have c1:aa W1 (w.heap.size+1) [.int .i64 i] 3:=by rw[hW1];exact(((aa.new _ _ _).alloc _)).at (by simp)
 have c2:aa W1 (w.heap.size+2) [.int .i64 0] 3:=by rw[hW1];exact((aa.new _ _ _)).at (by simp)
 go_wp2_with fail;rw[<-hW1];clear hW1;refine(PC.out _).mono ?_;rintro e w' ⟨rfl,cx,cw,z2,b2⟩;rw[z1]at cx cw z2;rw[z1];have b3:Below w.heap.size w w':=bg b1 b2;replace c0:=c0.kept b2
 replace c1:=c1.kept b2;replace c2:=c2.kept b2;go_wp2;clear b1 b2 PC
 have G:=(kg n mm kn vn hh LM ao xs cap qo ys dap (fun b=>b≠w.heap.size+2/\b≠w'.heap.size+1) w' (w.heap.size+3) (w.heap.size+4) F (hx.keep b3) fx (hy.keep b3) fy cx cw (by omega) (by omega) (fun p hp h0=>by have:=hx.blk hp h0;omega) (fun p hp h0=>by have:=hy.blk hp h0;omega)).enc (enc':=fun q=>#[.int .i64 q,.int .i64 (gt l q:Nat)]) (fun q hq=>by rw[hg q hq])
 refine iE (gf:=257) (lb:=#[.pointer (some ⟨w.heap.size+3,0,none⟩),.pointer (some ⟨w.heap.size+4,0,none⟩)]) (K:=fun b=>b≠w.heap.size+2) rfl (enters_of func257 (by kernel_rfl) rfl) (fun _=>rfl) G (fun b hb=>by omega)
  (fun q Wc=>az (fun b=>b≠w.heap.size+2) w' Wc/\aa Wc (w.heap.size+2) [.int .i64 0] 3/\∀j,j<q->gt l j<i) (fun q Wc=>az (fun b=>b≠w.heap.size+2) w' Wc/\aa Wc (w.heap.size+2) [.int .i64 c] 3) (fun q A B h hb=>⟨h.1.more hb (Nat.le_refl _),h.2.1.keep hb (by omega),h.2.2⟩) (fun q A B h hb=>⟨h.1.more hb (Nat.le_refl _),h.2.keep hb (by omega)⟩) ⟨az.refl _ _,c2,fun j hj=>absurd hj (by omega)⟩
  (fun q=>{ tmps:=#[.agg #[.int .i64 n,.int .i64 mm,.int .i64 kn,.int .i64 vn,.int .i64 LM,.slice ao xs.length cap,.int .i64 hh,.slice qo ys.length dap],.int .i64 i,.pointer (some ⟨w.heap.size,0,none⟩),.pointer (some ⟨w.heap.size+1,0,none⟩),.pointer (some ⟨w.heap.size+2,0,none⟩),.int .i64 (q:Nat),.int .i64 (gt l q:Nat),.agg #[.int .i64 n,.int .i64 mm,.int .i64 kn,.int .i64 vn,.int .i64 LM,.slice ao xs.length cap,.int .i64 hh,.slice qo ys.length dap],.func (.func 257) #[] #[.pointer (some ⟨w.heap.size+3,0,none⟩),.pointer (some ⟨w.heap.size+4,0,none⟩)],.int .i64 (q:Nat),.int .i64 (gt l q:Nat),undef,undef,undef,undef,undef,undef],defers:=[] }) ?assign ?body ?done ?stop
 case assign=>
  intro l1 q Wc K1 hK1;gi_wp2;exact hK1
 case body=>
  rintro l1 q Wc hq ⟨hk,cR,hlt⟩ hz;have cI:=(hk.cel c1 (by omega)).cell 0 rfl;have r0:=cR.cell 0 rfl;have r1:=cR.frozen 0;clear G;by_cases hge:i<=gt l q
  .have hge2:(i:Int)<=(gt l q:Int):=by omega
   obtain rfl:c=q:=hc.eq (by omega) hlt (fun _=>hge)
   have HX:Hid (az (fun b=>b≠w.heap.size+2) Wc (Wc.setCell ⟨w.heap.size+2,0,none⟩ (.int .i64 c))/\az (fun b=>b≠w.heap.size+2) w' (Wc.setCell ⟨w.heap.size+2,0,none⟩ (.int .i64 c))/\aa (Wc.setCell ⟨w.heap.size+2,0,none⟩ (.int .i64 c)) (w.heap.size+2) [.int .i64 c] 3):=⟨(az.refl _ _).setCell (fun h=>h rfl) _,hk.setCell (fun h=>h rfl) _,cR.set 0 _⟩
   gi_wp2;exact HX.out
  .have hge2:¬(i:Int)<=(gt l q:Int):=by omega
   gi_wp2
   exact⟨az.refl _ _,hk,cR,fun j hj=>by
    by_cases e:j=q
    .subst e;omega
    .exact hlt j (by omega)⟩
 case done=>
  rintro D Wc hD ⟨hk,cR,hlt⟩ hd;have r0:=cR.cell 0 rfl;have r1:=cR.frozen 0;have hB:=aG ((hk.below (B:=w.heap.size) (fun x h=>by omega) (by omega)))
  have HE:=aG (hc.eq (q:=mm) (by omega) hlt (fun h=>absurd h (by omega)));have m1:=(hk.cel c0 (by omega)).cell 1 rfl;rw[Nat.add_zero]at m1
  have hb:=aG (hB.out.setCell (p:=⟨w.heap.size+2,0,none⟩) (show w.heap.size<=w.heap.size+2 by omega) (.int .i64 mm));have cS:=aG (cR.set 0 (.int .i64 mm))
  have hd2:=aG ((Below.heap_setCell Wc ⟨w.heap.size+2,0,none⟩ (.int .i64 mm) D (show D≠w.heap.size+2 by omega)).trans hd);clear hd hk;go_wp2
  have cR2:=(cS.out.put (.deferred none) (show w.heap.size+2≠D by omega)).cell 0 rfl
  exact fb hd2.out (v:=.int .i64 mm) (by simp[results,Tryz.results181,go_sem,cR2]) ⟨by rw[HE.out],b3.trans (hb.out.trans (dt (by omega) _))⟩
 case stop=>
  rintro D q Wc hD hq ⟨hk,cR⟩ hd;go_wp2;have cR2:=(cR.put (.deferred none) (show w.heap.size+2≠D by omega)).cell 0 rfl
  exact fb hd (v:=.int .i64 c) (by simp[results,Tryz.results181,go_sem,cR2]) ⟨rfl,b3.trans ((hk.below (fun x h=>by omega) (by omega)).trans (dt (by omega) _))⟩
structure lq (l:List Nat) (k c:Nat):Prop where
 le:c<=l.length
 lo:∀j,j<c->gt l j-j<=k
 hi:c<l.length->k<gt l c-c
theorem lq.eq{l:List Nat}{k c q:Nat}(h:lq l k c)(hq:q<=l.length)(h1:∀j,j<q->gt l j-j<=k)(h2:q<l.length->k<gt l q-q):c=q:=by
 by_cases a:c<q
 .have:=h1 c a;have:=h.hi (by omega);omega
 .by_cases b:q<c
  .have:=h.lo q b;have:=h.le;have:=h2 (by omega);omega
  .omega
theorem FU(n mm kn vn hh:Nat)(LM:Int)(ao:Option Addr)(xs:List Nat)(cap:Nat)(qo:Option Addr)(ys:List Nat)(dap:Nat)(l:List Nat)(w:World)(F:fD n mm kn vn LM xs hh ys)(hx:Wd w ao xs)(fx:Fit xs)(hy:Wd w qo ys)(fy:Fit ys)(hl:l.length=mm)(hg:∀q,q<mm->plq n mm xs hh ys q=gt l q)(hr:aR l n)(k:Nat)(hk0:k<mm):
  Qq 197 #[.agg #[.int .i64 n,.int .i64 mm,.int .i64 kn,.int .i64 vn,.int .i64 LM,.slice ao xs.length cap,.int .i64 hh,.slice qo ys.length dap],.bool true,.int .i64 k] w (.int .i64 (gt l k:Nat)):=by
 have nl:=F.hn;have ml:=F.hm;refine(callsIn_wide (n:=0)).1 (callsIn_of_wp_marks func197 rfl trivial ?_)
 simp only[ntmps197,List.size_toArray,List.length_cons,List.length_nil,Nat.reduceAdd,Nat.reduceSub,Array.replicate_succ,Array.replicate_zero,List.push_toArray,List.append_toArray,List.nil_append,List.cons_append]
 refine wpIn_wide.2 ?_
 have PC:Hid (∀w0,Calls prog 202 #[.agg #[.int .i64 n,.int .i64 mm,.int .i64 kn,.int .i64 vn,.int .i64 LM,.slice ao xs.length cap,.int .i64 hh,.slice qo ys.length dap]] w0 fun e w'=>e=.returned (.func (.func 257) #[] #[.pointer (some ⟨w0.heap.size,0,none⟩),.pointer (some ⟨w0.heap.size+1,0,none⟩)])/\aa w' w0.heap.size [.int .i64 n,.int .i64 mm,.int .i64 kn,.int .i64 vn,.int .i64 LM,.slice ao xs.length cap,.int .i64 hh,.slice qo ys.length dap] 42/\aa w' (w0.heap.size+1) [.int .i64 (wdF n mm:Nat)] 3/\w'.heap.size=w0.heap.size+2/\Below w0.heap.size w0 w'):=fun w0=>kP n mm kn vn hh LM ao xs cap qo ys dap F.hn F.hm w0
 obtain⟨W1,hW1⟩:∃W1,W1=(((w.alloc (.cells #[.int .i64 n,.int .i64 mm,.int .i64 kn,.int .i64 vn,.int .i64 LM,.slice ao xs.length cap,.int .i64 hh,.slice qo ys.length dap] 42)).alloc (.cells #[.bool true] 4)).alloc (.cells #[.int .i64 k] 3)).alloc (.cells #[.int .i64 0] 3):=⟨_,rfl⟩
 have z1:W1.heap.size=w.heap.size+4:=by rw[hW1];simp
 have b1:Below w.heap.size w W1:=by rw[hW1];exact((((below_alloc w _).alloc (by simp only[World.size_alloc];omega) _).alloc (by simp only[World.size_alloc];omega) _).alloc (by simp only[World.size_alloc];omega) _)
 have c0:aa W1 (w.heap.size+0) [.int .i64 n,.int .i64 mm,.int .i64 kn,.int .i64 vn,.int .i64 LM,.slice ao xs.length cap,.int .i64 hh,.slice qo ys.length dap] 42:=by rw[hW1];exact(((((aa.new _ _ _).alloc _).alloc _).alloc _)).at (by simp)
 have c1:aa W1 (w.heap.size+1) [.bool true] 4:=by rw[hW1];exact((((aa.new _ _ _).alloc _).alloc _)).at (by simp)
 have c2:aa W1 (w.heap.size+2) [.int .i64 k] 3:=by rw[hW1];exact(((aa.new _ _ _).alloc _)).at (by simp)
 have c3:aa W1 (w.heap.size+3) [.int .i64 0] 3:=by rw[hW1];exact((aa.new _ _ _)).at (by simp)
 go_wp2_with fail;rw[<-hW1];clear hW1;refine(PC.out _).mono ?_;rintro e w' ⟨rfl,cx,cw,z2,b2⟩;rw[z1]at cx cw z2;rw[z1];have b3:Below w.heap.size w w':=bg b1 b2;replace c0:=c0.kept b2
 replace c1:=c1.kept b2;replace c2:=c2.kept b2;replace c3:=c3.kept b2;go_wp2;clear b1 b2 PC
 have G:=(kg n mm kn vn hh LM ao xs cap qo ys dap (fun b=>b≠w.heap.size+3/\b≠w'.heap.size+1) w' (w.heap.size+4) (w.heap.size+5) F (hx.keep b3) fx (hy.keep b3) fy cx cw (by omega) (by omega) (fun p hp h0=>by have:=hx.blk hp h0;omega) (fun p hp h0=>by have:=hy.blk hp h0;omega)).enc (enc':=fun q=>#[.int .i64 q,.int .i64 (gt l q:Nat)]) (fun q hq=>by rw[hg q hq])
 refine iE (gf:=257) (lb:=#[.pointer (some ⟨w.heap.size+4,0,none⟩),.pointer (some ⟨w.heap.size+5,0,none⟩)]) (K:=fun b=>b≠w.heap.size+3) rfl (enters_of func257 (by kernel_rfl) rfl) (fun _=>rfl) G (fun b hb=>by omega)
  (fun q Wc=>az (fun b=>b≠w.heap.size+3) w' Wc/\aa Wc (w.heap.size+3) [.int .i64 0] 3/\(q<=k)) (fun q Wc=>az (fun b=>b≠w.heap.size+3) w' Wc/\aa Wc (w.heap.size+3) [.int .i64 (gt l k:Nat)] 3) (fun q A B h hb=>⟨h.1.more hb (Nat.le_refl _),h.2.1.keep hb (by omega),h.2.2⟩) (fun q A B h hb=>⟨h.1.more hb (Nat.le_refl _),h.2.keep hb (by omega)⟩) ⟨az.refl _ _,c3,by omega⟩
  (fun q=>{ tmps:=#[.agg #[.int .i64 n,.int .i64 mm,.int .i64 kn,.int .i64 vn,.int .i64 LM,.slice ao xs.length cap,.int .i64 hh,.slice qo ys.length dap],.bool true,.int .i64 k,.pointer (some ⟨w.heap.size,0,none⟩),.pointer (some ⟨w.heap.size+1,0,none⟩),.pointer (some ⟨w.heap.size+2,0,none⟩),.pointer (some ⟨w.heap.size+3,0,none⟩),.int .i64 (q:Nat),.int .i64 (gt l q:Nat),.agg #[.int .i64 n,.int .i64 mm,.int .i64 kn,.int .i64 vn,.int .i64 LM,.slice ao xs.length cap,.int .i64 hh,.slice qo ys.length dap],.func (.func 257) #[] #[.pointer (some ⟨w.heap.size+4,0,none⟩),.pointer (some ⟨w.heap.size+5,0,none⟩)],.int .i64 (q:Nat),.int .i64 (gt l q:Nat),undef,undef,undef,undef,undef,undef,undef,undef,undef,undef,undef,undef,undef,undef,undef,undef,undef,undef,undef,undef,undef,undef,undef],defers:=[] }) ?assign ?body ?done ?stop
 case assign=>
  intro l1 q Wc K1 hK1;gi_wp2;exact hK1
 case body=>
  rintro l1 q Wc hq ⟨hk,cR,hlt⟩ hz;have cI:=(hk.cel c1 (by omega)).cell 0 rfl;have cJ:=(hk.cel c2 (by omega)).cell 0 rfl;have r0:=cR.cell 0 rfl;have r1:=cR.frozen 0;clear G;by_cases hge:q=k
  .have hge2:((q:Int)==(k:Int))=true:=by simp;omega
   obtain rfl:=hge
   have HX:Hid (az (fun b=>b≠w.heap.size+3) Wc (Wc.setCell ⟨w.heap.size+3,0,none⟩ (.int .i64 (gt l q:Nat)))/\az (fun b=>b≠w.heap.size+3) w' (Wc.setCell ⟨w.heap.size+3,0,none⟩ (.int .i64 (gt l q:Nat)))/\aa (Wc.setCell ⟨w.heap.size+3,0,none⟩ (.int .i64 (gt l q:Nat))) (w.heap.size+3) [.int .i64 (gt l q:Nat)] 3):=⟨(az.refl _ _).setCell (fun h=>h rfl) _,hk.setCell (fun h=>h rfl) _,cR.set 0 _⟩
   gi_wp2;exact HX.out
  .have hge2:((q:Int)==(k:Int))=false:=by simp;omega
   gi_wp2;exact⟨az.refl _ _,hk,cR,by omega⟩
 case done=>
  rintro D Wc hD ⟨hk,cR,hlt⟩ hd;exact absurd hk0 (by omega)
 case stop=>
  rintro D q Wc hD hq ⟨hk,cR⟩ hd;go_wp2;have cR2:=(cR.put (.deferred none) (show w.heap.size+3≠D by omega)).cell 0 rfl
  exact fb hd (v:=.int .i64 (gt l k:Nat)) (by simp[results,Tryz.results197,go_sem,cR2]) ⟨rfl,b3.trans ((hk.below (fun x h=>by omega) (by omega)).trans (dt (by omega) _))⟩
theorem FV(n mm kn vn hh:Nat)(LM:Int)(ao:Option Addr)(xs:List Nat)(cap:Nat)(qo:Option Addr)(ys:List Nat)(dap:Nat)(l:List Nat)(w:World)(F:fD n mm kn vn LM xs hh ys)(hx:Wd w ao xs)(fx:Fit xs)(hy:Wd w qo ys)(fy:Fit ys)(hl:l.length=mm)(hg:∀q,q<mm->plq n mm xs hh ys q=gt l q)(hr:aR l n)(k:Nat)(hkn:k<=1048576)(c:Nat)(hc:lq l k c):
  Qq 197 #[.agg #[.int .i64 n,.int .i64 mm,.int .i64 kn,.int .i64 vn,.int .i64 LM,.slice ao xs.length cap,.int .i64 hh,.slice qo ys.length dap],.bool false,.int .i64 k] w (.int .i64 ((k+c:Nat):Int)):=by
 have nl:=F.hn;have ml:=F.hm;refine(callsIn_wide (n:=0)).1 (callsIn_of_wp_marks func197 rfl trivial ?_)
 simp only[ntmps197,List.size_toArray,List.length_cons,List.length_nil,Nat.reduceAdd,Nat.reduceSub,Array.replicate_succ,Array.replicate_zero,List.push_toArray,List.append_toArray,List.nil_append,List.cons_append]
 refine wpIn_wide.2 ?_
 have PC:Hid (∀w0,Calls prog 202 #[.agg #[.int .i64 n,.int .i64 mm,.int .i64 kn,.int .i64 vn,.int .i64 LM,.slice ao xs.length cap,.int .i64 hh,.slice qo ys.length dap]] w0 fun e w'=>e=.returned (.func (.func 257) #[] #[.pointer (some ⟨w0.heap.size,0,none⟩),.pointer (some ⟨w0.heap.size+1,0,none⟩)])/\aa w' w0.heap.size [.int .i64 n,.int .i64 mm,.int .i64 kn,.int .i64 vn,.int .i64 LM,.slice ao xs.length cap,.int .i64 hh,.slice qo ys.length dap] 42/\aa w' (w0.heap.size+1) [.int .i64 (wdF n mm:Nat)] 3/\w'.heap.size=w0.heap.size+2/\Below w0.heap.size w0 w'):=fun w0=>kP n mm kn vn hh LM ao xs cap qo ys dap F.hn F.hm w0
 obtain⟨W1,hW1⟩:∃W1,W1=(((w.alloc (.cells #[.int .i64 n,.int .i64 mm,.int .i64 kn,.int .i64 vn,.int .i64 LM,.slice ao xs.length cap,.int .i64 hh,.slice qo ys.length dap] 42)).alloc (.cells #[.bool false] 4)).alloc (.cells #[.int .i64 k] 3)).alloc (.cells #[.int .i64 0] 3):=⟨_,rfl⟩
 have z1:W1.heap.size=w.heap.size+4:=by rw[hW1];simp
 have b1:Below w.heap.size w W1:=by rw[hW1];exact((((below_alloc w _).alloc (by simp only[World.size_alloc];omega) _).alloc (by simp only[World.size_alloc];omega) _).alloc (by simp only[World.size_alloc];omega) _)
 have c0:aa W1 (w.heap.size+0) [.int .i64 n,.int .i64 mm,.int .i64 kn,.int .i64 vn,.int .i64 LM,.slice ao xs.length cap,.int .i64 hh,.slice qo ys.length dap] 42:=by rw[hW1];exact(((((aa.new _ _ _).alloc _).alloc _).alloc _)).at (by simp)
 have c1:aa W1 (w.heap.size+1) [.bool false] 4:=by rw[hW1];exact((((aa.new _ _ _).alloc _).alloc _)).at (by simp)
 have c2:aa W1 (w.heap.size+2) [.int .i64 k] 3:=by rw[hW1];exact(((aa.new _ _ _).alloc _)).at (by simp)
 have c3:aa W1 (w.heap.size+3) [.int .i64 0] 3:=by rw[hW1];exact((aa.new _ _ _)).at (by simp)
 go_wp2_with fail;rw[<-hW1];clear hW1;refine(PC.out _).mono ?_;rintro e w' ⟨rfl,cx,cw,z2,b2⟩;rw[z1]at cx cw z2;rw[z1];have b3:Below w.heap.size w w':=bg b1 b2;replace c0:=c0.kept b2
 replace c1:=c1.kept b2;replace c2:=c2.kept b2;replace c3:=c3.kept b2;go_wp2;clear b1 b2 PC
 have G:=(kg n mm kn vn hh LM ao xs cap qo ys dap (fun b=>b≠w.heap.size+3/\b≠w'.heap.size+1) w' (w.heap.size+4) (w.heap.size+5) F (hx.keep b3) fx (hy.keep b3) fy cx cw (by omega) (by omega) (fun p hp h0=>by have:=hx.blk hp h0;omega) (fun p hp h0=>by have:=hy.blk hp h0;omega)).enc (enc':=fun q=>#[.int .i64 q,.int .i64 (gt l q:Nat)]) (fun q hq=>by rw[hg q hq])
 refine iE (gf:=257) (lb:=#[.pointer (some ⟨w.heap.size+4,0,none⟩),.pointer (some ⟨w.heap.size+5,0,none⟩)]) (K:=fun b=>b≠w.heap.size+3) rfl (enters_of func257 (by kernel_rfl) rfl) (fun _=>rfl) G (fun b hb=>by omega)
  (fun q Wc=>az (fun b=>b≠w.heap.size+3) w' Wc/\aa Wc (w.heap.size+3) [.int .i64 0] 3/\(∀j,j<q->gt l j-j<=k)) (fun q Wc=>az (fun b=>b≠w.heap.size+3) w' Wc/\aa Wc (w.heap.size+3) [.int .i64 ((k+c:Nat):Int)] 3) (fun q A B h hb=>⟨h.1.more hb (Nat.le_refl _),h.2.1.keep hb (by omega),h.2.2⟩) (fun q A B h hb=>⟨h.1.more hb (Nat.le_refl _),h.2.keep hb (by omega)⟩) ⟨az.refl _ _,c3,fun j hj=>absurd hj (by omega)⟩
  (fun q=>{ tmps:=#[.agg #[.int .i64 n,.int .i64 mm,.int .i64 kn,.int .i64 vn,.int .i64 LM,.slice ao xs.length cap,.int .i64 hh,.slice qo ys.length dap],.bool false,.int .i64 k,.pointer (some ⟨w.heap.size,0,none⟩),.pointer (some ⟨w.heap.size+1,0,none⟩),.pointer (some ⟨w.heap.size+2,0,none⟩),.pointer (some ⟨w.heap.size+3,0,none⟩),.int .i64 (q:Nat),.int .i64 (gt l q:Nat),.agg #[.int .i64 n,.int .i64 mm,.int .i64 kn,.int .i64 vn,.int .i64 LM,.slice ao xs.length cap,.int .i64 hh,.slice qo ys.length dap],.func (.func 257) #[] #[.pointer (some ⟨w.heap.size+4,0,none⟩),.pointer (some ⟨w.heap.size+5,0,none⟩)],.int .i64 (q:Nat),.int .i64 (gt l q:Nat),undef,undef,undef,undef,undef,undef,undef,undef,undef,undef,undef,undef,undef,undef,undef,undef,undef,undef,undef,undef,undef,undef,undef],defers:=[] }) ?assign ?body ?done ?stop
 case assign=>
  intro l1 q Wc K1 hK1;gi_wp2;exact hK1
 case body=>
  rintro l1 q Wc hq ⟨hk,cR,hlt⟩ hz;have cI:=(hk.cel c1 (by omega)).cell 0 rfl;have cJ:=(hk.cel c2 (by omega)).cell 0 rfl;have r0:=cR.cell 0 rfl;have r1:=cR.frozen 0;clear G;have hst:=hr.step q 0 (by omega)
  rw[Nat.zero_add]at hst;have hln:=hr.1 q (by omega);obtain⟨d,hd⟩:∃d,Hid (d=gt l q-q):=⟨_,rfl⟩;have hd2:(gt l q:Int)-(q:Int)=(d:Int):=by rw[hd.out];omega
  have dl:d<=1048576:=by rw[hd.out];omega
  by_cases hge:k<d
  .have hge2:(k:Int)<(d:Int):=by omega
   obtain rfl:c=q:=hc.eq (by omega) hlt (fun _=>by rw[<-hd.out];exact hge)
   have HX:Hid (az (fun b=>b≠w.heap.size+3) Wc (Wc.setCell ⟨w.heap.size+3,0,none⟩ (.int .i64 ((k+c:Nat):Int)))/\az (fun b=>b≠w.heap.size+3) w' (Wc.setCell ⟨w.heap.size+3,0,none⟩ (.int .i64 ((k+c:Nat):Int)))/\aa (Wc.setCell ⟨w.heap.size+3,0,none⟩ (.int .i64 ((k+c:Nat):Int))) (w.heap.size+3) [.int .i64 ((k+c:Nat):Int)] 3):=⟨(az.refl _ _).setCell (fun h=>h rfl) _,hk.setCell (fun h=>h rfl) _,cR.set 0 _⟩
   have c20:c<=1048576:=by omega
   rw[show((k+c:Nat):Int)=(k:Int)+(c:Int)by omega]at HX⊢;clear hst hln;gi_wp2;exact HX.out
  .have hge2:¬(k:Int)<(d:Int):=by omega
   have hlt2:Hid (∀j,j<q+1->gt l j-j<=k):=fun j hj=>by
    by_cases e:j=q
    .subst e;rw[<-hd.out];omega
    .exact hlt j (by omega)
   clear hst hln;gi_wp2;exact⟨az.refl _ _,hk,cR,fun j hj=>by have:=hlt2.out j hj;omega⟩
 case done=>
  rintro D Wc hD ⟨hk,cR,hlt⟩ hd;have r0:=cR.cell 0 rfl;have r1:=cR.frozen 0;have hB:=aG ((hk.below (B:=w.heap.size) (fun x h=>by omega) (by omega)))
  have HE:=aG (hc.eq (q:=mm) (by omega) hlt (fun h=>absurd h (by omega)));have m1:=(hk.cel c0 (by omega)).cell 1 rfl;rw[Nat.add_zero]at m1;have cJ:=(hk.cel c2 (by omega)).cell 0 rfl
  have m20:mm<=1048576:=by omega
  have hb:=aG (hB.out.setCell (p:=⟨w.heap.size+3,0,none⟩) (show w.heap.size<=w.heap.size+3 by omega) (.int .i64 ((k:Int)+(mm:Int))));have cS:=aG (cR.set 0 (.int .i64 ((k:Int)+(mm:Int))))
  have hd2:=aG ((Below.heap_setCell Wc ⟨w.heap.size+3,0,none⟩ (.int .i64 ((k:Int)+(mm:Int))) D (show D≠w.heap.size+3 by omega)).trans hd);clear hd hk;go_wp2
  have cR2:=(cS.out.put (.deferred none) (show w.heap.size+3≠D by omega)).cell 0 rfl
  exact fb hd2.out (v:=.int .i64 ((k:Int)+(mm:Int))) (by simp[results,Tryz.results197,go_sem,cR2]) ⟨by rw[HE.out];congr 1,b3.trans (hb.out.trans (dt (by omega) _))⟩
 case stop=>
  rintro D q Wc hD hq ⟨hk,cR⟩ hd;go_wp2;have cR2:=(cR.put (.deferred none) (show w.heap.size+3≠D by omega)).cell 0 rfl
  exact fb hd (v:=.int .i64 ((k+c:Nat):Int)) (by simp[results,Tryz.results197,go_sem,cR2]) ⟨rfl,b3.trans ((hk.below (fun x h=>by omega) (by omega)).trans (dt (by omega) _))⟩
end Go.Proofs.YtleegaihbgbcjaaGreatDoor
namespace Go.Proofs.YtleegaihbgbcjaaGreatDoor
open Go.RowKit Num Bit
def eF(w:World)(cs:List Value)(a:bm):Prop:=∃ao cap qo dap,cs=[.int .i64 a.N,.int .i64 a.M,.int .i64 a.k,.int .i64 a.V,.int .i64 a.LM,.slice ao a.xs.length cap,.int .i64 a.H,.slice qo a.ys.length dap]/\(ax a.N/\ax a.M/\ax a.k/\ax a.V/\ax a.LM/\ax a.H)/\Wd w ao a.xs/\Fit a.xs/\a.xs.length<=cap/\Wd w qo a.ys/\Fit a.ys/\a.ys.length<=dap
structure bK (w:World) (cs:List Value) (a:bm):Prop where
 arg:eF w cs a
 n3:a.N<=3000
 xl:a.xs.length<=1048576
 yl:a.ys.length<=1048576
theorem eF.keep{w w':World}{cs:List Value}{a:bm}(h:eF w cs a)(hb:Below w.heap.size w w'):eF w' cs a:=by
 obtain⟨ao,cap,qo,dap,e,r,a1,a2,a3,a4,a5,a6⟩:=h;exact⟨ao,cap,qo,dap,e,r,a1.keep hb,a2,a3,a4.keep hb,a5,a6⟩
theorem bK.keep{w w':World}{cs:List Value}{a:bm}(h:bK w cs a)(hb:Below w.heap.size w w'):bK w' cs a:=⟨h.arg.keep hb,h.n3,h.xl,h.yl⟩
theorem eF.len{w:World}{cs:List Value}{a:bm}(h:eF w cs a):(prog.info? 42).map (·.size)=some cs.length:=by
 obtain⟨ao,cap,qo,dap,rfl,_⟩:=h;kernel_rfl
theorem eF.nine{w:World}{cs:List Value}{a:bm}(h:eF w cs a):8=cs.length:=by
 obtain⟨ao,cap,qo,dap,rfl,_⟩:=h;rfl
theorem eF.one{w:World}{cs:List Value}{a:bm}(h:eF w cs a):cs.toArray.all (·.oneCell')=true:=by
 obtain⟨ao,cap,qo,dap,rfl,_⟩:=h;simp[Value.oneCell']
theorem EJ(a:bm)(h:kOk9 a=true):0<=a.N/\a.N<=1048576/\aR (kRow a) a.N.toNat:=by
 obtain⟨h1,_⟩:=qw a h;unfold gM at h1;simp only at h1;split at h1
 .rename_i c;obtain⟨⟨c1,c2,c3,c4⟩,c5,c6,c7,c8⟩:=c;exact⟨c1,c2,(rd _ _ _ _ _ _ h1).2⟩
 .cases h1
theorem n_(a:bm)(h:kOk9 a=true):ar (kBN9 a) (kBX9 a)=true:=by
 obtain⟨h0,h1,_⟩:=EJ a h;unfold kBN9 kBX9;rw[if_pos h,if_pos h];have:=dL a.N.toNat (isIn (kRow a)) (by omega);rw[Int.toNat_of_nonneg h0]at this;exact this
theorem ub(xs:List Nat)(n:Nat):(plc (bitAt xs) n).length=cntB xs n:=by
 induction n with
 | zero=>rfl
 | succ n ih=>
  rw[lQ,List.length_append,ih];show _=cntB xs n+(if bitAt xs n then 1 else 0);cases bitAt xs n<;>rfl
theorem oU(n:Nat)(l:List Nat)(hr:aR l n)(i:Nat):bitAt (rowOf n (isIn l)) i=isIn l i:=by
 rw[eD];by_cases c:i<n
 .rw[decide_eq_true c,Bool.true_and]
 .rw[decide_eq_false c,Bool.false_and];symm;refine Bool.eq_false_iff.2 fun h=>?_;obtain⟨j,hj,e⟩:=(ff l i).1 h;have:=hr.1 j hj;omega
theorem oF{n:Nat}{l:List Nat}(hr:aR l n)(i:Nat):o_ l i (cntB (rowOf n (isIn l)) i):=by
 induction i with
 | zero=>exact⟨Nat.zero_le _,fun j hj=>absurd hj (by show ¬j<0;omega),fun j _ _=>Nat.zero_le _⟩
 | succ i ih=>
  have e:cntB (rowOf n (isIn l)) (i+1)=cntB (rowOf n (isIn l)) i+(if isIn l i then 1 else 0):=by
   show _+(if bitAt _ i then 1 else 0)=_;rw[oU n l hr]
  generalize cntB (rowOf n (isIn l)) i=c at *;rw[e];cases hb:isIn l i with
  | false=>
   simp only[Bool.false_eq_true,if_false,Nat.add_zero];refine⟨ih.le,fun j hj=>by have:=ih.lo j hj;omega,fun j hj hl=>?_⟩;have h1:=ih.hi j hj hl;refine Nat.lt_of_le_of_ne h1 fun e2=>?_
   rw[e2,og l j hl]at hb;cases hb
  | true=>
   obtain⟨j,hj,ej⟩:=(ff l i).1 hb
   have jc:j=c:=by
    by_cases c1:j<c
    .have:=ih.lo j c1;omega
    .by_cases c2:c<j
     .have h1:=hr.lt c2 hj;have:=ih.hi c (Nat.le_refl _) (by omega);omega
     .omega
   subst jc;simp only[if_true];refine⟨by omega,fun t ht=>?_,fun t ht hl=>?_⟩
   .by_cases e3:t=j
    .subst e3;omega
    .have:=ih.lo t (by omega);omega
   .have:=hr.lt (show j<t by omega) hl;omega
theorem G_{n:Nat}{l:List Nat}(hr:aR l n)(k:Nat)(hk:k<l.length):bitAt (rowOf n (isIn l)) (gt l k)=true/\cntB (rowOf n (isIn l)) (gt l k)=k:=by
 refine⟨by rw[oU n l hr];exact og l k hk,?_⟩;exact(oF hr (gt l k)).eq (by omega) (fun j hj=>hr.lt hj hk) (fun _=>Nat.le_refl _)
theorem Ha{n:Nat}{l:List Nat}(hr:aR l n):cntB (rowOf n (isIn l)) n=l.length:=
 (oF hr n).eq (Nat.le_refl _) (fun j hj=>hr.1 j hj) (fun h=>absurd h (by omega))
theorem G9{n:Nat}{l:List Nat}(hr:aR l n)(k:Nat)(hk:k<n-l.length):∃c,lq l k c/\k+c<n/\bitAt (rowOf n (isIn l)) (k+c)=false/\(k+c)-cntB (rowOf n (isIn l)) (k+c)=k:=by
 have hlen:=hr.len;-- the first place that has more than k noughts ahead
 have ex:∀d,d<=l.length->(∃c,lq l k c)\/(∀j,j<d->gt l j-j<=k):=by
  intro d;induction d with
  | zero=>intro _;exact .inr fun j hj=>absurd hj (by omega)
  | succ d ih=>
   intro hd;rcases ih (by omega)with h | h
   .exact .inl h
   .by_cases c:k<gt l d-d
    .exact .inl ⟨d,by omega,h,fun _=>c⟩
    .exact .inr fun j hj=>by
      by_cases e:j=d
      .subst e;omega
      .exact h j (by omega)
 have hc:∃c,lq l k c:=by
  rcases ex l.length (Nat.le_refl _)with h | h
  .exact h
  .exact⟨l.length,Nat.le_refl _,h,fun h=>absurd h (by omega)⟩
 obtain⟨c,hc⟩:=hc
 have hst:∀j,j<l.length->j<=gt l j:=fun j hj=>by
  have:=hr.step j 0 (by omega);rw[Nat.zero_add]at this;omega
 have h1:∀j,j<c->gt l j<k+c:=fun j hj=>by
  have:=hc.lo j hj;have:=hc.le;have:=hst j (by omega);omega
 have h2:c<l.length->k+c<gt l c:=fun h=>by
  have:=hc.hi h;have:=hst c h;omega
 have hn:k+c<n:=by
  by_cases e:c<l.length
  .have:=h2 e;have:=hr.1 c e;omega
  .have:=hc.le;omega
 have hcnt:cntB (rowOf n (isIn l)) (k+c)=c:=(oF hr (k+c)).eq hc.le h1 (fun h=>Nat.le_of_lt (h2 h));refine⟨c,hc,hn,?_,by omega⟩;rw[oU n l hr];refine Bool.eq_false_iff.2 fun h=>?_
 obtain⟨j,hj,e⟩:=(ff l _).1 h;by_cases a:j<c
 .have:=h1 j a;omega
 .by_cases b:j=c
  .subst b;have:=h2 hj;omega
  .have:=hr.lt (show c<j by omega) hj;have:=h2 (by omega);omega
def rP(w:World)(b:Nat)(l:List (Int×Nat)):Prop:=b<w.heap.size/\∀i,i<l.length->w.cell? ⟨b,i*2,none⟩=some (.int .i64 (l.getD i (0,0)).1)/\∃ao cap,w.cell? ⟨b,i*2+1,none⟩=some (.slice ao (l.getD i (0,0)).2 cap)
def dJ(l:List (Int×Nat)):Bool:=l.all fun p=>decide (p.1=0)&&decide ((p.2:Int)=0)
theorem Db(l:List (Int×Nat))(h:∀j,j<l.length->(l.getD j (0,0)).1=0/\(l.getD j (0,0)).2=0):dJ l=true:=by
 unfold dJ;rw[List.all_eq_true];intro p hp;obtain⟨j,hj,rfl⟩:=List.mem_iff_getElem.1 hp;have:=h j hj;rw[List.getD_eq_getElem?_getD,List.getElem?_eq_getElem hj]at this
 simp[show(l[j]).1=0 from this.1,show(l[j]).2=0 from this.2]
theorem ut(l:List (Int×Nat))(j:Nat)(hj:j<l.length)(h:(l.getD j (0,0)).1≠0\/(l.getD j (0,0)).2≠0):dJ l=false:=by
 refine Bool.eq_false_iff.2 fun e=>?_;unfold dJ at e;rw[List.all_eq_true]at e;have:=e _ (List.getElem_mem hj);rw[List.getD_eq_getElem?_getD,List.getElem?_eq_getElem hj]at h;simp at this;rcases h with h | h
 .exact h this.1
 .exact h (by have:=this.2;simp only[Option.getD_some]at *;omega)
theorem qa(b cap:Nat)(l:List (Int×Nat))(w:World)(hx:rP w b l)(hl:l.length<=2):
  Qq 238 #[.slice (some ⟨b,0,none⟩) l.length cap] w (.bool (dJ l)):=by
 obtain⟨R,hR⟩:∃R,Hid (R=dJ l):=⟨_,rfl⟩;rw[<-hR.out];go_enter func238,ntmps238;go_wp2
 go_loopw [7] (fun i wr=>∃k:Nat,k<=l.length/\i=.int .i64 k/\Hid (∀j,j<k->(l.getD j (0,0)).1=0/\(l.getD j (0,0)).2=0)/\Below w.heap.size w wr) (fun i _=>l.length-(intOf i).toNat)
 case atStart=>exact⟨0,by omega,rfl,fun j hj=>absurd hj (by omega),Below.refl _ _⟩
 case round=>
  obtain⟨k,hk,rfl,H,hw⟩:=hrel;by_cases hlt:k<l.length
  .obtain⟨h1,ao,cp,h2⟩:=hx.2 k hlt;have e1:=(hw.cell (p:=⟨b,k*2,none⟩) hx.1).trans h1;have e2:=(hw.cell (p:=⟨b,k*2+1,none⟩) hx.1).trans h2;obtain⟨N,hN⟩:∃N,N=(l.getD k (0,0)).1:=⟨_,rfl⟩
   obtain⟨n,hn⟩:∃n,n=(l.getD k (0,0)).2:=⟨_,rfl⟩;rw[<-hN]at e1;rw[<-hn]at e2;have hlt3:(k:Int)<(l.length:Int):=by omega
   have HN:Hid (N=(l.getD k (0,0)).1/\n=(l.getD k (0,0)).2):=And.intro hN hn;clear hN hn h1 h2;have bA:=hw.alloc hw.size (.cells #[.int .i64 N,.slice ao n cp] 33);by_cases hv:N=0
   .by_cases hv2:n=0
    .subst hv hv2;go_wp2;refine⟨⟨k+1,by omega,by go_num,?_,bA⟩,by simp only[intOf];omega⟩;intro j hj;by_cases e:j=k
     .subst e;exact⟨HN.out.1.symm,HN.out.2.symm⟩
     .exact H.out j (by omega)
    .have hne:((n:Int) != 0)=true:=by simp;omega
     have E:Hid (R=false):=by
      show R=false;rw[hR.out];exact ut l k hlt (.inr (by rw[<-HN.out.2];exact hv2))
     subst hv;go_wp2;go_ret;rw[E.out];exact⟨rfl,bA⟩
   .have hne:(N != 0)=true:=by simp[hv]
    have E:Hid (R=false):=by
     show R=false;rw[hR.out];exact ut l k hlt (.inl (by rw[<-HN.out.1];exact hv))
    go_wp2;go_ret;rw[E.out];exact⟨rfl,bA⟩
  .have E:Hid (R=true):=by
    show R=true;rw[hR.out];exact Db l (fun j hj=>H.out j (by omega))
   go_wp2;go_ret;rw[E.out];exact⟨rfl,hw⟩
structure bN where
 N:Int
 xs:List Nat
 S:List Int
 T:List Int
def eG(w:World)(cs:List Value)(a:bN):Prop:=∃ao cap so sc tO tc,cs=[.int .i64 a.N,.slice ao a.xs.length cap,.slice so a.S.length sc,.slice tO a.T.length tc]/\rQ w a.N ao a.xs cap so a.S sc tO a.T tc
structure b9 (w:World) (cs:List Value) (a:bN):Prop where
 arg:eG w cs a
 xl:a.xs.length<=1048576
 sl:a.S.length<=1048576
 tl:a.T.length<=1048576
theorem eG.keep{w w':World}{cs:List Value}{a:bN}(h:eG w cs a)(hb:Below w.heap.size w w'):eG w' cs a:=by
 obtain⟨ao,cap,so,sc,tO,tc,e,h⟩:=h;exact⟨ao,cap,so,sc,tO,tc,e,⟨h.n,h.x.keep hb,h.f,h.c,h.s.keep hb,h.sf,h.sc,h.t.keep hb,h.tf,h.tc⟩⟩
theorem b9.keep{w w':World}{cs:List Value}{a:bN}(h:b9 w cs a)(hb:Below w.heap.size w w'):b9 w' cs a:=⟨h.arg.keep hb,h.xl,h.sl,h.tl⟩
theorem eG.len{w:World}{cs:List Value}{a:bN}(h:eG w cs a):(prog.info? 36).map (·.size)=some cs.length:=by
 obtain⟨ao,cap,so,sc,tO,tc,rfl,_⟩:=h;kernel_rfl
theorem eG.four{w:World}{cs:List Value}{a:bN}(h:eG w cs a):cs.length=4:=by
 obtain⟨ao,cap,so,sc,tO,tc,rfl,_⟩:=h;rfl
theorem eG.one{w:World}{cs:List Value}{a:bN}(h:eG w cs a):cs.toArray.all (·.oneCell')=true:=by
 obtain⟨ao,cap,so,sc,tO,tc,rfl,_⟩:=h;simp[Value.oneCell']
def kOk7(a:bN):Bool:=pchk a.N a.xs a.S a.T
def kBN7(a:bN):Int:=dm a.N a.xs a.S a.T
def kBX7(a:bN):List Nat:=dz a.N a.xs a.S a.T
def kZ7(a:bN):Int:=pP a.N a.xs a.S a.T
def kB7(N:Int)(xs:List Nat):bN:=⟨iG N xs,eZ N xs,fa N xs,e_ N xs⟩
def kE7(N:Int)(xs:List Nat):Int:=ny N xs
theorem EM(N:Int)(xs:List Nat)(hk:ar N xs=true):kOk7 (kB7 N xs)=true/\kBN7 (kB7 N xs)=N/\kBX7 (kB7 N xs)=xs:=by
 have e:kB7 N xs=⟨N,xs,supL N xs,subL N xs⟩:=by unfold kB7 iG eZ fa e_;rw[if_pos hk,if_pos hk,if_pos hk,if_pos hk]
 have k:pchk N xs (supL N xs) (subL N xs)=true:=by unfold pchk;simp[hk]
 rw[e];unfold kOk7 kBN7 kBX7 dm dz;simp only;rw[if_pos k,if_pos k];exact⟨k,rfl,rfl⟩
theorem EP(a:bN)(h:kOk7 a=true):ar (kBN7 a) (kBX7 a)=true:=by
 unfold kBN7 kBX7 dm dz;unfold kOk7 at h;rw[if_pos h,if_pos h];unfold pchk at h;simp only[Bool.and_eq_true]at h;exact h.1
structure RA where
 K:Int
 p:bN
 r:aE
 f:bm
def eR(w:World)(cs:List Value)(a:RA):Prop:=∃cp cr cf,cs=.int .i64 a.K::(cp++(cr++cf))/\ax a.K/\eG w cp a.p/\dR w cr a.r/\eF w cf a.f
structure Sm (a:RA):Prop where
 p1:a.p.xs.length<=1048576
 p2:a.p.S.length<=1048576
 p3:a.p.T.length<=1048576
 r1:a.r.xs.length<=1048576
 r2:a.r.ys.length<=1048576
 r3:a.r.S.length<=1048576
 r4:a.r.T.length<=1048576
 f0:a.f.N<=3000
 f1:a.f.xs.length<=1048576
 f2:a.f.ys.length<=1048576
structure KI (w:World) (cs:List Value) (a:RA):Prop where
 arg:eR w cs a
 sm:Sm a
 gv:GV w
theorem eR.keep{w w':World}{cs:List Value}{a:RA}(h:eR w cs a)(hb:Below w.heap.size w w'):eR w' cs a:=by
 obtain⟨cp,cr,cf,e,k,h1,h2,h3⟩:=h;exact⟨cp,cr,cf,e,k,h1.keep hb,h2.keep hb,h3.keep hb⟩
theorem KI.keep{w w':World}{cs:List Value}{a:RA}(h:KI w cs a)(hb:Below w.heap.size w w'):KI w' cs a:=⟨h.arg.keep hb,h.sm,h.gv.keep hb⟩
theorem eR.nine{w:World}{cs:List Value}{a:RA}(h:eR w cs a):22=cs.length:=by
 obtain⟨cp,cr,cf,rfl,_,h1,h2,h3⟩:=h;have:=h1.four;have:=h2.nine;have:=h3.nine;simp only[List.length_cons,List.length_append];omega
theorem qC:(prog.info? 44).map (·.size)=some 22:=by kernel_rfl
theorem eR.len{w:World}{cs:List Value}{a:RA}(h:eR w cs a):(prog.info? 44).map (·.size)=some cs.length:=by
 rw[<-h.nine];exact qC
theorem eR.one{w:World}{cs:List Value}{a:RA}(h:eR w cs a):cs.toArray.all (·.oneCell')=true:=by
 obtain⟨cp,cr,cf,rfl,_,h1,h2,h3⟩:=h;have a1:=h1.one;have a2:=h2.one;have a3:=h3.one;simp only[List.all_toArray]at a1 a2 a3⊢;rw[List.all_cons,List.all_append,List.all_append,a1,a2,a3];rfl
def z7(a:bN):Bool:=dJ [(a.N,a.xs.length)]&&(decide ((a.S.length:Int)=0)&&decide ((a.T.length:Int)=0))
def z8(a:aE):Bool:=decide (a.N=0)&&(decide (a.k=0)&&(decide (a.V=0)&&(dJ [(a.M,a.xs.length),(a.L,a.ys.length)]&&(decide ((a.S.length:Int)=0)&&decide ((a.T.length:Int)=0)))))
def z9(a:bm):Bool:=decide (a.N=0)&&(decide (a.M=0)&&(decide (a.k=0)&&(decide (a.V=0)&&dJ [(a.LM,a.xs.length),(a.H,a.ys.length)])))
def da(a:RA):Bool:=(decide (a.K=1)||z7 a.p)&&((decide (a.K=2)||z8 a.r)&&(decide (a.K=3)||z9 a.f))
def kOn(a:RA):Int:=if da a=true then a.K else 0
def aJ(a:RA):Bool:=if kOn a=1 then kOk7 a.p else if kOn a=2 then kOk8 a.r else if kOn a=3 then kOk9 a.f else false
def kBN(a:RA):Int:=if kOn a=1 then kBN7 a.p else if kOn a=2 then kBN8 a.r else if kOn a=3 then kBN9 a.f else 0
def aQ(a:RA):List Nat:=if kOn a=1 then kBX7 a.p else if kOn a=2 then kBX8 a.r else if kOn a=3 then kBX9 a.f else []
def kZ(a:RA):Int:=if kOn a=1 then kZ7 a.p else if kOn a=2 then kZ8 a.r else if kOn a=3 then kZ9 a.f else 0
def n7:bN:=⟨0,[],[],[]⟩
def n8:aE:=⟨0,0,0,0,[],0,[],[],[]⟩
def n9:bm:=⟨0,0,0,0,0,[],0,[]⟩
def kE(k:Int)(N:Int)(xs:List Nat):Int:=if k=1 then kE7 N xs else if k=2 then kE8 N xs else if k=3 then kE9 N xs else 5
def kB(k:Int)(N:Int)(xs:List Nat):RA:=if kE k N xs=0 then ⟨k,if k=1 then kB7 N xs else n7,if k=2 then kB8 N xs else n8,if k=3 then kB9 N xs else n9⟩else ⟨0,n7,n8,n9⟩
theorem jg{a:RA}(h:kOn a=1):aJ a=kOk7 a.p/\kBN a=kBN7 a.p/\aQ a=kBX7 a.p/\kZ a=kZ7 a.p:=by
 unfold aJ kBN aQ kZ;rw[if_pos h,if_pos h,if_pos h,if_pos h];exact⟨rfl,rfl,rfl,rfl⟩
theorem gY{a:RA}(h:kOn a=2):aJ a=kOk8 a.r/\kBN a=kBN8 a.r/\aQ a=kBX8 a.r/\kZ a=kZ8 a.r:=by
 unfold aJ kBN aQ kZ;have e:¬kOn a=1:=by omega
 rw[if_neg e,if_neg e,if_neg e,if_neg e,if_pos h,if_pos h,if_pos h,if_pos h];exact⟨rfl,rfl,rfl,rfl⟩
theorem ji{a:RA}(h:kOn a=3):aJ a=kOk9 a.f/\kBN a=kBN9 a.f/\aQ a=kBX9 a.f/\kZ a=kZ9 a.f:=by
 unfold aJ kBN aQ kZ;have e:¬kOn a=1:=by omega
 have e2:¬kOn a=2:=by omega
 rw[if_neg e,if_neg e,if_neg e,if_neg e,if_neg e2,if_neg e2,if_neg e2,if_neg e2,if_pos h,if_pos h,if_pos h,if_pos h];exact⟨rfl,rfl,rfl,rfl⟩
theorem jh{a:RA}(h1:kOn a≠1)(h2:kOn a≠2)(h3:kOn a≠3):aJ a=false/\kBN a=0/\aQ a=[]/\kZ a=0:=by
 unfold aJ kBN aQ kZ;rw[if_neg h1,if_neg h1,if_neg h1,if_neg h1,if_neg h2,if_neg h2,if_neg h2,if_neg h2,if_neg h3,if_neg h3,if_neg h3,if_neg h3];exact⟨rfl,rfl,rfl,rfl⟩
theorem kJ(a:RA)(h:aJ a=true):ar (kBN a) (aQ a)=true:=by
 by_cases h1:kOn a=1
 .obtain⟨e1,e2,e3,_⟩:=jg h1;rw[e2,e3];exact EP _ (e1.symm.trans h)
 by_cases h2:kOn a=2
 .obtain⟨e1,e2,e3,_⟩:=gY h2;rw[e2,e3];exact vr _ (e1.symm.trans h)
 by_cases h3:kOn a=3
 .obtain⟨e1,e2,e3,_⟩:=ji h3;rw[e2,e3];exact n_ _ (e1.symm.trans h)
 rw[(jh h1 h2 h3).1]at h;cases h
theorem nX(k N:Int)(xs:List Nat)(h1:1<=k)(h3:k<=3)(hk:ar N xs=true):kE k N xs=0:=by
 unfold kE kE7 kE8 kE9 ny m_;simp only[hk];split
 .rfl
 .split
  .rfl
  .split
   .rfl
   .omega
theorem aN{ops:Array Oper}{rest:List Oper}{d:Option Tmp}{ty T:TypeId}{ps:String}{af:Array Edge}{gd:Option (Nat×Bool)}{a:Act}{w:World}{Q:Exit->Act->World->Prop}{x:Operand}
  (g o:Nat) (cs:List Value) {fs:Array Field} (hwn:Region.wanted (⟨d,.load T x,ty,ps,af,gd⟩:Oper) (yielded ops a.tmps)=true) (hx:a.eval x=.pointer (some ⟨g,o,none⟩)) (hc:w.rangeAt g o cs) (hu:prog.underlying T=some (.struct fs)) (hi:(prog.info? T).map (·.size)=some cs.length)
  (h:wpList prog ops Q rest (a.put d (.agg cs.toArray)) w):
  wpList prog ops Q (⟨d,.load T x,ty,ps,af,gd⟩::rest) a w:=
 wpList_step fun K hK=>by
  rw[if_pos hwn];exact wp_load_mid T x rfl g o hx cs _ hc hu rfl hi (hK _ _ h)
theorem aa.part{w:World}{b:Nat}{T:TypeId}(pre cs post:List Value)(h:aa w b (pre++(cs++post)) T):w.rangeAt b pre.length cs:=fun j v hv=>by
 refine h.cell (pre.length+j) ?_;have hj:j<cs.length:=(List.getElem?_eq_some_iff.1 hv).1;rw[List.getElem?_append_right (by omega),List.getElem?_append_left (by omega),show pre.length+j-pre.length=j by omega]
 exact hv
theorem Av(w:World)(N:Int)(ao:Option Addr)(n cap:Nat)(T:TypeId):rP (w.alloc (.cells #[.int .i64 N,.slice ao n cap] T)) w.heap.size [(N,n)]:=by
 have hc:=aa.new w [.int .i64 N,.slice ao n cap] T;refine⟨hc.lt,fun i hi=>?_⟩;have hi:i<1:=hi;obtain rfl:i=0:=by omega
 exact⟨hc.cell 0 rfl,ao,cap,hc.cell 1 rfl⟩
theorem tx(w:World)(N:Int)(ao:Option Addr)(n cap:Nat)(M:Int)(bo:Option Addr)(m dap:Nat)(T:TypeId):rP (w.alloc (.cells #[.int .i64 N,.slice ao n cap,.int .i64 M,.slice bo m dap] T)) w.heap.size [(N,n),(M,m)]:=by
 have hc:=aa.new w [.int .i64 N,.slice ao n cap,.int .i64 M,.slice bo m dap] T;refine⟨hc.lt,fun i hi=>?_⟩;have hi:i<2:=hi;have:i=0\/i=1:=by omega
 rcases this with rfl | rfl
 .exact⟨hc.cell 0 rfl,ao,cap,hc.cell 1 rfl⟩
 .exact⟨hc.cell 2 rfl,bo,dap,hc.cell 3 rfl⟩
theorem Df(cs:List Value)(a:bN)(w:World)(h:eG w cs a):
  Qq 169 #[.agg cs.toArray] w (.bool (z7 a)):=by
 obtain⟨ao,cap,so,sc,tO,tc,rfl, -⟩:=h;obtain⟨N,xs,S,T⟩:=a;dsimp only;obtain⟨Z,hZ⟩:∃Z,Hid (Z=z7 ⟨N,xs,S,T⟩):=⟨_,rfl⟩;rw[<-hZ.out]
 obtain⟨W,hW⟩:∃W,W=(w.alloc (.cells #[.int .i64 N,.slice ao xs.length cap,.slice so S.length sc,.slice tO T.length tc] 36)).alloc (.cells #[.int .i64 N,.slice ao xs.length cap] 33):=⟨_,rfl⟩;have bW:=cW hW
 have R:Hid (∀w0:World,w0=W->Qq 238 #[.slice (some ⟨w.heap.size+1,0,none⟩) 1 1] w0 (.bool (dJ [(N,xs.length)]))):=fun w0 g=>by
  subst g;refine qa _ 1 [(N,xs.length)] w0 ?_ (by simp);have hx:=Av (w.alloc (.cells #[.int .i64 N,.slice ao xs.length cap,.slice so S.length sc,.slice tO T.length tc] 36)) N ao xs.length cap 33
  rw[show(w.alloc (.cells #[.int .i64 N,.slice ao xs.length cap,.slice so S.length sc,.slice tO T.length tc] 36)).heap.size=w.heap.size+1 by simp]at hx;rw[hW];exact hx
 subst hW;cases hn:dJ [(N,xs.length)]with
 | false=>
  have E:Hid (Z=false):=by
   show Z=_;rw[hZ.out];unfold z7;simp[hn]
  clear hZ;rw[hn]at R;go_enter func169,ntmps169;go_wp2_with fail;refine mr (R.out _ (by rfl)) fun w1 hb=>?_
  have g0:=((aa.new w [.int .i64 N,.slice ao xs.length cap,.slice so S.length sc,.slice tO T.length tc] 36).kept (below_alloc _ _)).kept hb;have g1:=g0.cell 2 rfl;have g2:=g0.cell 3 rfl;clear g0
  replace hb:=bg bW hb;go_wp2;go_ret;rw[E.out];exact⟨rfl,hb⟩
 | true=>
  by_cases qS:(S.length:Int)=0;rotate_left
  .have dS:((S.length:Int)==0)=false:=beq_eq_false_iff_ne.2 qS
   have E:Hid (Z=false):=by
    show Z=_;rw[hZ.out];unfold z7;simp[hn,show ¬S=[]from fun e=>qS (by rw[e];rfl)]
   clear hZ;rw[hn]at R;go_enter func169,ntmps169;go_wp2_with fail;refine mr (R.out _ (by rfl)) fun w1 hb=>?_
   have g0:=((aa.new w [.int .i64 N,.slice ao xs.length cap,.slice so S.length sc,.slice tO T.length tc] 36).kept (below_alloc _ _)).kept hb;have g1:=g0.cell 2 rfl;have g2:=g0.cell 3 rfl;clear g0
   replace hb:=bg bW hb;go_wp2;go_ret;rw[E.out];exact⟨rfl,hb⟩
  have dS:((S.length:Int)==0)=true:=by simp only[qS];rfl
  by_cases qT:(T.length:Int)=0;rotate_left
  .have dT:((T.length:Int)==0)=false:=beq_eq_false_iff_ne.2 qT
   have E:Hid (Z=false):=by
    show Z=_;rw[hZ.out];unfold z7;simp[hn,show S=[]from List.eq_nil_of_length_eq_zero (by omega),show ¬T=[]from fun e=>qT (by rw[e];rfl)]
   clear hZ;rw[hn]at R;go_enter func169,ntmps169;go_wp2_with fail;refine mr (R.out _ (by rfl)) fun w1 hb=>?_
   have g0:=((aa.new w [.int .i64 N,.slice ao xs.length cap,.slice so S.length sc,.slice tO T.length tc] 36).kept (below_alloc _ _)).kept hb;have g1:=g0.cell 2 rfl;have g2:=g0.cell 3 rfl;clear g0
   replace hb:=bg bW hb;go_wp2;go_ret;rw[E.out];exact⟨rfl,hb⟩
  have dT:((T.length:Int)==0)=true:=by simp only[qT];rfl
  have E:Hid (Z=true):=by
   show Z=_;rw[hZ.out];unfold z7;simp[hn,show S=[]from List.eq_nil_of_length_eq_zero (by omega),show T=[]from List.eq_nil_of_length_eq_zero (by omega)]
  clear hZ;rw[hn]at R;go_enter func169,ntmps169;go_wp2_with fail;refine mr (R.out _ (by rfl)) fun w1 hb=>?_
  have g0:=((aa.new w [.int .i64 N,.slice ao xs.length cap,.slice so S.length sc,.slice tO T.length tc] 36).kept (below_alloc _ _)).kept hb;have g1:=g0.cell 2 rfl;have g2:=g0.cell 3 rfl;clear g0
  replace hb:=bg bW hb;go_wp2;go_ret;rw[E.out];exact⟨rfl,hb⟩
theorem De(cs:List Value)(a:aE)(w:World)(h:dR w cs a):
  Qq 170 #[.agg cs.toArray] w (.bool (z8 a)):=by
 obtain⟨ao,cap,qo,dap,so,sc,tO,tc,rfl, -⟩:=h;obtain⟨N,k,V,M,xs,L,ys,S,T⟩:=a;dsimp only;obtain⟨Z,hZ⟩:∃Z,Hid (Z=z8 ⟨N,k,V,M,xs,L,ys,S,T⟩):=⟨_,rfl⟩;rw[<-hZ.out];by_cases qN:N=0
 rotate_left
 .have dN:(N==0)=false:=by simp[qN]
  have E:Hid (Z=false):=by
   show Z=_;rw[hZ.out];unfold z8;simp[qN]
  clear hZ;go_enter func170,ntmps170;go_wp2;go_ret;rw[E.out];exact⟨rfl,below_alloc _ _⟩
 subst qN;by_cases qk:k=0;rotate_left
 .have dk:(k==0)=false:=by simp[qk]
  have E:Hid (Z=false):=by
   show Z=_;rw[hZ.out];unfold z8;simp[qk]
  clear hZ;go_enter func170,ntmps170;go_wp2;go_ret;rw[E.out];exact⟨rfl,below_alloc _ _⟩
 subst qk;by_cases qV:V=0;rotate_left
 .have dV:(V==0)=false:=by simp[qV]
  have E:Hid (Z=false):=by
   show Z=_;rw[hZ.out];unfold z8;simp[qV]
  clear hZ;go_enter func170,ntmps170;go_wp2;go_ret;rw[E.out];exact⟨rfl,below_alloc _ _⟩
 subst qV
 obtain⟨W,hW⟩:∃W,W=(w.alloc (.cells #[.int .i64 0,.int .i64 0,.int .i64 0,.int .i64 M,.slice ao xs.length cap,.int .i64 L,.slice qo ys.length dap,.slice so S.length sc,.slice tO T.length tc] 40)).alloc (.cells #[.int .i64 M,.slice ao xs.length cap,.int .i64 L,.slice qo ys.length dap] 33):=⟨_,rfl⟩
 have bW:=cW hW
 have R:Hid (∀w0:World,w0=W->Qq 238 #[.slice (some ⟨w.heap.size+1,0,none⟩) 2 2] w0 (.bool (dJ [(M,xs.length),(L,ys.length)]))):=fun w0 g=>by
  subst g;refine qa _ 2 [(M,xs.length),(L,ys.length)] w0 ?_ (by simp)
  have hx:=tx (w.alloc (.cells #[.int .i64 0,.int .i64 0,.int .i64 0,.int .i64 M,.slice ao xs.length cap,.int .i64 L,.slice qo ys.length dap,.slice so S.length sc,.slice tO T.length tc] 40)) M ao xs.length cap L qo ys.length dap 33
  rw[show(w.alloc (.cells #[.int .i64 0,.int .i64 0,.int .i64 0,.int .i64 M,.slice ao xs.length cap,.int .i64 L,.slice qo ys.length dap,.slice so S.length sc,.slice tO T.length tc] 40)).heap.size=w.heap.size+1 by simp]at hx
  rw[hW];exact hx
 subst hW;cases hn:dJ [(M,xs.length),(L,ys.length)]with
 | false=>
  have E:Hid (Z=false):=by
   show Z=_;rw[hZ.out];unfold z8;simp[hn]
  clear hZ;rw[hn]at R;go_enter func170,ntmps170;go_wp2_with fail;refine mr (R.out _ (by rfl)) fun w1 hb=>?_
  have g0:=((aa.new w [.int .i64 0,.int .i64 0,.int .i64 0,.int .i64 M,.slice ao xs.length cap,.int .i64 L,.slice qo ys.length dap,.slice so S.length sc,.slice tO T.length tc] 40).kept (below_alloc _ _)).kept hb
  have g1:=g0.cell 7 rfl;have g2:=g0.cell 8 rfl;clear g0;replace hb:=bg bW hb;go_wp2;go_ret;rw[E.out];exact⟨rfl,hb⟩
 | true=>
  by_cases qS:(S.length:Int)=0;rotate_left
  .have dS:((S.length:Int)==0)=false:=beq_eq_false_iff_ne.2 qS
   have E:Hid (Z=false):=by
    show Z=_;rw[hZ.out];unfold z8;simp[hn,show ¬S=[]from fun e=>qS (by rw[e];rfl)]
   clear hZ;rw[hn]at R;go_enter func170,ntmps170;go_wp2_with fail;refine mr (R.out _ (by rfl)) fun w1 hb=>?_
   have g0:=((aa.new w [.int .i64 0,.int .i64 0,.int .i64 0,.int .i64 M,.slice ao xs.length cap,.int .i64 L,.slice qo ys.length dap,.slice so S.length sc,.slice tO T.length tc] 40).kept (below_alloc _ _)).kept hb
   have g1:=g0.cell 7 rfl;have g2:=g0.cell 8 rfl;clear g0;replace hb:=bg bW hb;go_wp2;go_ret;rw[E.out];exact⟨rfl,hb⟩
  have dS:((S.length:Int)==0)=true:=by simp only[qS];rfl
  by_cases qT:(T.length:Int)=0;rotate_left
  .have dT:((T.length:Int)==0)=false:=beq_eq_false_iff_ne.2 qT
   have E:Hid (Z=false):=by
    show Z=_;rw[hZ.out];unfold z8;simp[hn,show S=[]from List.eq_nil_of_length_eq_zero (by omega),show ¬T=[]from fun e=>qT (by rw[e];rfl)]
   clear hZ;rw[hn]at R;go_enter func170,ntmps170;go_wp2_with fail;refine mr (R.out _ (by rfl)) fun w1 hb=>?_
   have g0:=((aa.new w [.int .i64 0,.int .i64 0,.int .i64 0,.int .i64 M,.slice ao xs.length cap,.int .i64 L,.slice qo ys.length dap,.slice so S.length sc,.slice tO T.length tc] 40).kept (below_alloc _ _)).kept hb
   have g1:=g0.cell 7 rfl;have g2:=g0.cell 8 rfl;clear g0;replace hb:=bg bW hb;go_wp2;go_ret;rw[E.out];exact⟨rfl,hb⟩
  have dT:((T.length:Int)==0)=true:=by simp only[qT];rfl
  have E:Hid (Z=true):=by
   show Z=_;rw[hZ.out];unfold z8;simp[hn,show S=[]from List.eq_nil_of_length_eq_zero (by omega),show T=[]from List.eq_nil_of_length_eq_zero (by omega)]
  clear hZ;rw[hn]at R;go_enter func170,ntmps170;go_wp2_with fail;refine mr (R.out _ (by rfl)) fun w1 hb=>?_
  have g0:=((aa.new w [.int .i64 0,.int .i64 0,.int .i64 0,.int .i64 M,.slice ao xs.length cap,.int .i64 L,.slice qo ys.length dap,.slice so S.length sc,.slice tO T.length tc] 40).kept (below_alloc _ _)).kept hb
  have g1:=g0.cell 7 rfl;have g2:=g0.cell 8 rfl;clear g0;replace hb:=bg bW hb;go_wp2;go_ret;rw[E.out];exact⟨rfl,hb⟩
theorem Dg(cs:List Value)(a:bm)(w:World)(h:eF w cs a):
  Qq 171 #[.agg cs.toArray] w (.bool (z9 a)):=by
 obtain⟨ao,cap,qo,dap,rfl, -⟩:=h;obtain⟨N,M,k,V,LM,xs,H,ys⟩:=a;dsimp only;obtain⟨Z,hZ⟩:∃Z,Hid (Z=z9 ⟨N,M,k,V,LM,xs,H,ys⟩):=⟨_,rfl⟩;rw[<-hZ.out];by_cases qN:N=0;rotate_left
 .have dN:(N==0)=false:=by simp[qN]
  have E:Hid (Z=false):=by
   show Z=_;rw[hZ.out];unfold z9;simp[qN]
  clear hZ;go_enter func171,ntmps171;go_wp2;go_ret;rw[E.out];exact⟨rfl,below_alloc _ _⟩
 subst qN;by_cases qM:M=0;rotate_left
 .have dM:(M==0)=false:=by simp[qM]
  have E:Hid (Z=false):=by
   show Z=_;rw[hZ.out];unfold z9;simp[qM]
  clear hZ;go_enter func171,ntmps171;go_wp2;go_ret;rw[E.out];exact⟨rfl,below_alloc _ _⟩
 subst qM;by_cases qk:k=0;rotate_left
 .have dk:(k==0)=false:=by simp[qk]
  have E:Hid (Z=false):=by
   show Z=_;rw[hZ.out];unfold z9;simp[qk]
  clear hZ;go_enter func171,ntmps171;go_wp2;go_ret;rw[E.out];exact⟨rfl,below_alloc _ _⟩
 subst qk;by_cases qV:V=0;rotate_left
 .have dV:(V==0)=false:=by simp[qV]
  have E:Hid (Z=false):=by
   show Z=_;rw[hZ.out];unfold z9;simp[qV]
  clear hZ;go_enter func171,ntmps171;go_wp2;go_ret;rw[E.out];exact⟨rfl,below_alloc _ _⟩
 subst qV
 obtain⟨W,hW⟩:∃W,W=(w.alloc (.cells #[.int .i64 0,.int .i64 0,.int .i64 0,.int .i64 0,.int .i64 LM,.slice ao xs.length cap,.int .i64 H,.slice qo ys.length dap] 42)).alloc (.cells #[.int .i64 LM,.slice ao xs.length cap,.int .i64 H,.slice qo ys.length dap] 33):=⟨_,rfl⟩
 have bW:=cW hW
 have R:Hid (∀w0:World,w0=W->Qq 238 #[.slice (some ⟨w.heap.size+1,0,none⟩) 2 2] w0 (.bool (dJ [(LM,xs.length),(H,ys.length)]))):=fun w0 g=>by
  subst g;refine qa _ 2 [(LM,xs.length),(H,ys.length)] w0 ?_ (by simp)
  have hx:=tx (w.alloc (.cells #[.int .i64 0,.int .i64 0,.int .i64 0,.int .i64 0,.int .i64 LM,.slice ao xs.length cap,.int .i64 H,.slice qo ys.length dap] 42)) LM ao xs.length cap H qo ys.length dap 33
  rw[show(w.alloc (.cells #[.int .i64 0,.int .i64 0,.int .i64 0,.int .i64 0,.int .i64 LM,.slice ao xs.length cap,.int .i64 H,.slice qo ys.length dap] 42)).heap.size=w.heap.size+1 by simp]at hx;rw[hW];exact hx
 subst hW;cases hn:dJ [(LM,xs.length),(H,ys.length)]with
 | false=>
  have E:Hid (Z=false):=by
   show Z=_;rw[hZ.out];unfold z9;simp[hn]
  clear hZ;rw[hn]at R;go_enter func171,ntmps171;go_wp2_with fail;refine mr (R.out _ (by rfl)) fun w1 hb=>?_;replace hb:=bg bW hb;go_wp2;go_ret;rw[E.out];exact⟨rfl,hb⟩
 | true=>
  have E:Hid (Z=true):=by
   show Z=_;rw[hZ.out];unfold z9;simp[hn]
  clear hZ;rw[hn]at R;go_enter func171,ntmps171;go_wp2_with fail;refine mr (R.out _ (by rfl)) fun w1 hb=>?_;replace hb:=bg bW hb;go_wp2;go_ret;rw[E.out];exact⟨rfl,hb⟩
theorem parts{w:World}{b:Nat}{K:Value}{cp cr cf:List Value}{T:TypeId}(l4:cp.length=4)(l9:9=cr.length)(h:aa w b (K::(cp++(cr++cf))) T):w.cell? ⟨b,0,none⟩=some K/\w.rangeAt b 1 cp/\w.rangeAt b 5 cr/\w.rangeAt b 14 cf:=by
 have a2:=aa.part (K::cp) cr cf h;rw[List.length_cons,l4]at a2;have h':aa w b ((K::(cp++cr))++(cf++[])) T:=by simpa using h
 have a3:=aa.part (K::(cp++cr)) cf [] h';rw[List.length_cons,List.length_append,l4,<-l9]at a3;exact⟨h.cell 0 rfl,aa.part [K] cp (cr++cf) h,a2,a3⟩
theorem gX(cs:List Value)(a:RA)(w:World)(h:eR w cs a):
  Qq 102 #[.agg cs.toArray] w (.int .i64 (kOn a)):=by
 obtain⟨cp,cr,cf,rfl,hK,h1,h2,h3⟩:=h;have l4:=Hid.mk8 h1.four;have l9:=Hid.mk8 h2.nine;have LP:=Hid.mk8 h1.len;have LR:=Hid.mk8 h2.len;have LF:=Hid.mk8 h3.len;obtain⟨K,p,r,f⟩:=a;dsimp only at *
 obtain⟨W,hW⟩:∃W,W=w.alloc (.cells (Value.int .i64 K::(cp++(cr++cf))).toArray 44):=⟨_,rfl⟩;have bw:Below w.heap.size w W:=by rw[hW];exact below_alloc w _
 have B0:=aU hW;obtain⟨O,hO⟩:∃O,Hid (O=kOn ⟨K,p,r,f⟩):=⟨_,rfl⟩;rw[<-hO.out]
 have N7:Hid (Qz w 169 #[.agg cp.toArray] (.bool (z7 p))):=fun w0 g=>Df cp p w0 (h1.keep g)
 have N8:Hid (Qz w 170 #[.agg cr.toArray] (.bool (z8 r))):=fun w0 g=>De cr r w0 (h2.keep g)
 have N9:Hid (Qz w 171 #[.agg cf.toArray] (.bool (z9 f))):=fun w0 g=>Dg cf f w0 (h3.keep g);clear h1 h2 h3;subst hW
 by_cases q1:K=1
 .subst q1;cases y8:z8 r with
  | false=>
   have E:Hid (O=0):=by
    show O=_;rw[hO.out];unfold kOn da;simp[y8]
   rw[y8]at N8;clear hO;go_enter func102,ntmps102;obtain⟨c0,p1,p2,p3⟩:=parts l4.out l9.out B0;go_wp2_with (refine aN w.heap.size 5 cr (by rfl) rfl p2 underlying40 LR.out ?_)
   refine mr (N8.out _ bw) fun w8 hb=>?_;replace B0:=B0.kept hb;replace bw:=bg bw hb;clear hb c0 p1 p2 p3;obtain⟨c0,p1,p2,p3⟩:=parts l4.out l9.out B0;go_wp2;go_ret;rw[E.out]
   exact⟨rfl,bw⟩
  | true=>
   cases y9:z9 f with
   | false=>
    have E:Hid (O=0):=by
     show O=_;rw[hO.out];unfold kOn da;simp[y8,y9]
    rw[y8]at N8;rw[y9]at N9;clear hO;go_enter func102,ntmps102;obtain⟨c0,p1,p2,p3⟩:=parts l4.out l9.out B0;go_wp2_with (refine aN w.heap.size 5 cr (by rfl) rfl p2 underlying40 LR.out ?_)
    refine mr (N8.out _ bw) fun w8 hb=>?_;replace B0:=B0.kept hb;replace bw:=bg bw hb;clear hb c0 p1 p2 p3;obtain⟨c0,p1,p2,p3⟩:=parts l4.out l9.out B0
    go_wp2_with (refine aN w.heap.size 14 cf (by rfl) rfl p3 underlying42 LF.out ?_);refine mr (N9.out _ bw) fun w9 hb=>?_;replace B0:=B0.kept hb;replace bw:=bg bw hb
    clear hb c0 p1 p2 p3;obtain⟨c0,p1,p2,p3⟩:=parts l4.out l9.out B0;go_wp2;go_ret;rw[E.out];exact⟨rfl,bw⟩
   | true=>
    have E:Hid (O=1):=by
     show O=_;rw[hO.out];unfold kOn da;simp[y8,y9]
    rw[y8]at N8;rw[y9]at N9;clear hO;go_enter func102,ntmps102;obtain⟨c0,p1,p2,p3⟩:=parts l4.out l9.out B0;go_wp2_with (refine aN w.heap.size 5 cr (by rfl) rfl p2 underlying40 LR.out ?_)
    refine mr (N8.out _ bw) fun w8 hb=>?_;replace B0:=B0.kept hb;replace bw:=bg bw hb;clear hb c0 p1 p2 p3;obtain⟨c0,p1,p2,p3⟩:=parts l4.out l9.out B0
    go_wp2_with (refine aN w.heap.size 14 cf (by rfl) rfl p3 underlying42 LF.out ?_);refine mr (N9.out _ bw) fun w9 hb=>?_;replace B0:=B0.kept hb;replace bw:=bg bw hb
    clear hb c0 p1 p2 p3;obtain⟨c0,p1,p2,p3⟩:=parts l4.out l9.out B0;go_wp2;go_ret;rw[E.out];exact⟨rfl,bw⟩
 have d1:(K != 1)=true:=by simp[q1]
 by_cases q2:K=2
 .subst q2;cases y7:z7 p with
  | false=>
   have E:Hid (O=0):=by
    show O=_;rw[hO.out];unfold kOn da;simp[y7]
   rw[y7]at N7;clear hO;go_enter func102,ntmps102;obtain⟨c0,p1,p2,p3⟩:=parts l4.out l9.out B0;go_wp2_with (refine aN w.heap.size 1 cp (by rfl) rfl p1 underlying36 LP.out ?_)
   refine mr (N7.out _ bw) fun w7 hb=>?_;replace B0:=B0.kept hb;replace bw:=bg bw hb;clear hb c0 p1 p2 p3;obtain⟨c0,p1,p2,p3⟩:=parts l4.out l9.out B0;go_wp2;go_ret;rw[E.out]
   exact⟨rfl,bw⟩
  | true=>
   cases y9:z9 f with
   | false=>
    have E:Hid (O=0):=by
     show O=_;rw[hO.out];unfold kOn da;simp[y7,y9]
    rw[y7]at N7;rw[y9]at N9;clear hO;go_enter func102,ntmps102;obtain⟨c0,p1,p2,p3⟩:=parts l4.out l9.out B0;go_wp2_with (refine aN w.heap.size 1 cp (by rfl) rfl p1 underlying36 LP.out ?_)
    refine mr (N7.out _ bw) fun w7 hb=>?_;replace B0:=B0.kept hb;replace bw:=bg bw hb;clear hb c0 p1 p2 p3;obtain⟨c0,p1,p2,p3⟩:=parts l4.out l9.out B0
    go_wp2_with (refine aN w.heap.size 14 cf (by rfl) rfl p3 underlying42 LF.out ?_);refine mr (N9.out _ bw) fun w9 hb=>?_;replace B0:=B0.kept hb;replace bw:=bg bw hb
    clear hb c0 p1 p2 p3;obtain⟨c0,p1,p2,p3⟩:=parts l4.out l9.out B0;go_wp2;go_ret;rw[E.out];exact⟨rfl,bw⟩
   | true=>
    have E:Hid (O=2):=by
     show O=_;rw[hO.out];unfold kOn da;simp[y7,y9]
    rw[y7]at N7;rw[y9]at N9;clear hO;go_enter func102,ntmps102;obtain⟨c0,p1,p2,p3⟩:=parts l4.out l9.out B0;go_wp2_with (refine aN w.heap.size 1 cp (by rfl) rfl p1 underlying36 LP.out ?_)
    refine mr (N7.out _ bw) fun w7 hb=>?_;replace B0:=B0.kept hb;replace bw:=bg bw hb;clear hb c0 p1 p2 p3;obtain⟨c0,p1,p2,p3⟩:=parts l4.out l9.out B0
    go_wp2_with (refine aN w.heap.size 14 cf (by rfl) rfl p3 underlying42 LF.out ?_);refine mr (N9.out _ bw) fun w9 hb=>?_;replace B0:=B0.kept hb;replace bw:=bg bw hb
    clear hb c0 p1 p2 p3;obtain⟨c0,p1,p2,p3⟩:=parts l4.out l9.out B0;go_wp2;go_ret;rw[E.out];exact⟨rfl,bw⟩
 have d2:(K != 2)=true:=by simp[q2]
 by_cases q3:K=3
 .subst q3;cases y7:z7 p with
  | false=>
   have E:Hid (O=0):=by
    show O=_;rw[hO.out];unfold kOn da;simp[y7]
   rw[y7]at N7;clear hO;go_enter func102,ntmps102;obtain⟨c0,p1,p2,p3⟩:=parts l4.out l9.out B0;go_wp2_with (refine aN w.heap.size 1 cp (by rfl) rfl p1 underlying36 LP.out ?_)
   refine mr (N7.out _ bw) fun w7 hb=>?_;replace B0:=B0.kept hb;replace bw:=bg bw hb;clear hb c0 p1 p2 p3;obtain⟨c0,p1,p2,p3⟩:=parts l4.out l9.out B0;go_wp2;go_ret;rw[E.out]
   exact⟨rfl,bw⟩
  | true=>
   cases y8:z8 r with
   | false=>
    have E:Hid (O=0):=by
     show O=_;rw[hO.out];unfold kOn da;simp[y7,y8]
    rw[y7]at N7;rw[y8]at N8;clear hO;go_enter func102,ntmps102;obtain⟨c0,p1,p2,p3⟩:=parts l4.out l9.out B0;go_wp2_with (refine aN w.heap.size 1 cp (by rfl) rfl p1 underlying36 LP.out ?_)
    refine mr (N7.out _ bw) fun w7 hb=>?_;replace B0:=B0.kept hb;replace bw:=bg bw hb;clear hb c0 p1 p2 p3;obtain⟨c0,p1,p2,p3⟩:=parts l4.out l9.out B0
    go_wp2_with (refine aN w.heap.size 5 cr (by rfl) rfl p2 underlying40 LR.out ?_);refine mr (N8.out _ bw) fun w8 hb=>?_;replace B0:=B0.kept hb;replace bw:=bg bw hb
    clear hb c0 p1 p2 p3;obtain⟨c0,p1,p2,p3⟩:=parts l4.out l9.out B0;go_wp2;go_ret;rw[E.out];exact⟨rfl,bw⟩
   | true=>
    have E:Hid (O=3):=by
     show O=_;rw[hO.out];unfold kOn da;simp[y7,y8]
    rw[y7]at N7;rw[y8]at N8;clear hO;go_enter func102,ntmps102;obtain⟨c0,p1,p2,p3⟩:=parts l4.out l9.out B0;go_wp2_with (refine aN w.heap.size 1 cp (by rfl) rfl p1 underlying36 LP.out ?_)
    refine mr (N7.out _ bw) fun w7 hb=>?_;replace B0:=B0.kept hb;replace bw:=bg bw hb;clear hb c0 p1 p2 p3;obtain⟨c0,p1,p2,p3⟩:=parts l4.out l9.out B0
    go_wp2_with (refine aN w.heap.size 5 cr (by rfl) rfl p2 underlying40 LR.out ?_);refine mr (N8.out _ bw) fun w8 hb=>?_;replace B0:=B0.kept hb;replace bw:=bg bw hb
    clear hb c0 p1 p2 p3;obtain⟨c0,p1,p2,p3⟩:=parts l4.out l9.out B0;go_wp2;go_ret;rw[E.out];exact⟨rfl,bw⟩
 have d3:(K != 3)=true:=by simp[q3]
 cases y7:z7 p with
 | false=>
  have E:Hid (O=0):=by
   show O=_;rw[hO.out];unfold kOn da;simp[q1,q2,q3,y7]
  rw[y7]at N7;clear hO;go_enter func102,ntmps102;obtain⟨c0,p1,p2,p3⟩:=parts l4.out l9.out B0;go_wp2_with (refine aN w.heap.size 1 cp (by rfl) rfl p1 underlying36 LP.out ?_)
  refine mr (N7.out _ bw) fun w7 hb=>?_;replace B0:=B0.kept hb;replace bw:=bg bw hb;clear hb c0 p1 p2 p3;obtain⟨c0,p1,p2,p3⟩:=parts l4.out l9.out B0;go_wp2;go_ret;rw[E.out]
  exact⟨rfl,bw⟩
 | true=>
  cases y8:z8 r with
  | false=>
   have E:Hid (O=0):=by
    show O=_;rw[hO.out];unfold kOn da;simp[q1,q2,q3,y7,y8]
   rw[y7]at N7;rw[y8]at N8;clear hO;go_enter func102,ntmps102;obtain⟨c0,p1,p2,p3⟩:=parts l4.out l9.out B0;go_wp2_with (refine aN w.heap.size 1 cp (by rfl) rfl p1 underlying36 LP.out ?_)
   refine mr (N7.out _ bw) fun w7 hb=>?_;replace B0:=B0.kept hb;replace bw:=bg bw hb;clear hb c0 p1 p2 p3;obtain⟨c0,p1,p2,p3⟩:=parts l4.out l9.out B0
   go_wp2_with (refine aN w.heap.size 5 cr (by rfl) rfl p2 underlying40 LR.out ?_);refine mr (N8.out _ bw) fun w8 hb=>?_;replace B0:=B0.kept hb;replace bw:=bg bw hb
   clear hb c0 p1 p2 p3;obtain⟨c0,p1,p2,p3⟩:=parts l4.out l9.out B0;go_wp2;go_ret;rw[E.out];exact⟨rfl,bw⟩
  | true=>
   cases y9:z9 f with
   | false=>
    have E:Hid (O=0):=by
     show O=_;rw[hO.out];unfold kOn da;simp[q1,q2,q3,y7,y8,y9]
    rw[y7]at N7;rw[y8]at N8;rw[y9]at N9;clear hO;go_enter func102,ntmps102;obtain⟨c0,p1,p2,p3⟩:=parts l4.out l9.out B0
    go_wp2_with (refine aN w.heap.size 1 cp (by rfl) rfl p1 underlying36 LP.out ?_);refine mr (N7.out _ bw) fun w7 hb=>?_;replace B0:=B0.kept hb;replace bw:=bg bw hb
    clear hb c0 p1 p2 p3;obtain⟨c0,p1,p2,p3⟩:=parts l4.out l9.out B0;go_wp2_with (refine aN w.heap.size 5 cr (by rfl) rfl p2 underlying40 LR.out ?_);refine mr (N8.out _ bw) fun w8 hb=>?_
    replace B0:=B0.kept hb;replace bw:=bg bw hb;clear hb c0 p1 p2 p3;obtain⟨c0,p1,p2,p3⟩:=parts l4.out l9.out B0
    go_wp2_with (refine aN w.heap.size 14 cf (by rfl) rfl p3 underlying42 LF.out ?_);refine mr (N9.out _ bw) fun w9 hb=>?_;replace B0:=B0.kept hb;replace bw:=bg bw hb
    clear hb c0 p1 p2 p3;obtain⟨c0,p1,p2,p3⟩:=parts l4.out l9.out B0;go_wp2;go_ret;rw[E.out];exact⟨rfl,bw⟩
   | true=>
    have E:Hid (O=K):=by
     show O=_;rw[hO.out];unfold kOn da;simp[q1,q2,q3,y7,y8,y9]
    rw[y7]at N7;rw[y8]at N8;rw[y9]at N9;clear hO;go_enter func102,ntmps102;obtain⟨c0,p1,p2,p3⟩:=parts l4.out l9.out B0
    go_wp2_with (refine aN w.heap.size 1 cp (by rfl) rfl p1 underlying36 LP.out ?_);refine mr (N7.out _ bw) fun w7 hb=>?_;replace B0:=B0.kept hb;replace bw:=bg bw hb
    clear hb c0 p1 p2 p3;obtain⟨c0,p1,p2,p3⟩:=parts l4.out l9.out B0;go_wp2_with (refine aN w.heap.size 5 cr (by rfl) rfl p2 underlying40 LR.out ?_);refine mr (N8.out _ bw) fun w8 hb=>?_
    replace B0:=B0.kept hb;replace bw:=bg bw hb;clear hb c0 p1 p2 p3;obtain⟨c0,p1,p2,p3⟩:=parts l4.out l9.out B0
    go_wp2_with (refine aN w.heap.size 14 cf (by rfl) rfl p3 underlying42 LF.out ?_);refine mr (N9.out _ bw) fun w9 hb=>?_;replace B0:=B0.kept hb;replace bw:=bg bw hb
    clear hb c0 p1 p2 p3;obtain⟨c0,p1,p2,p3⟩:=parts l4.out l9.out B0;go_wp2;go_ret;rw[E.out];exact⟨rfl,bw⟩
end Go.Proofs.YtleegaihbgbcjaaGreatDoor
namespace Go.Proofs.YtleegaihbgbcjaaGreatDoor
open Num
namespace Bit
def aA(xs:List Nat)(g:Nat):List Nat:=(xs.drop (8*g)).take 8
theorem dA(xs:List Nat)(g:Nat):(aA xs g).length=min 8 (xs.length-8*g):=by simp[aA]
theorem qG(xs:List Nat)(g k:Nat)(h:k<8):gt (aA xs g) k=gt xs (8*g+k):=by
 unfold gt aA;rw[List.getD_eq_getElem?_getD,List.getD_eq_getElem?_getD,List.getElem?_take_of_lt h,List.getElem?_drop]
theorem wJ(xs:List Nat)(hf:Fit xs)(g:Nat):Fit (aA xs g):=by
 intro i;by_cases h:i<8
 .rw[qG xs g i h];exact hf _
 .rw[jr _ _ (by rw[dA];omega)];decide
theorem JE(xs:List Nat)(g i:Nat)(h:i<512):bitAt (aA xs g) i=bitAt xs (512*g+i):=by
 unfold bitAt;rw[qG xs g (i/64) (by omega),show(512*g+i)/64=8*g+i/64 by omega,show(512*g+i)%64=i%64 by omega]
theorem rt(xs:List Nat)(g:Nat):∀i,i<=512->cntB xs (512*g+i)=cntB xs (512*g)+cntB (aA xs g) i
 | 0,_=>by simp[cntB]
 | i+1,h=>by
  have ih:=rt xs g i (by omega);rw[show 512*g+(i+1)=512*g+i+1 by omega];simp only[cntB];rw[ih,JE xs g i (by omega)];omega
theorem JC(xs:List Nat)(i:Nat)(h:64*xs.length<=i):bitAt xs i=false:=by
 unfold bitAt;rw[jr xs _ (by omega)];simp
theorem Il(xs:List Nat)(d:Nat):cntB xs (64*xs.length+d)=cntB xs (64*xs.length):=by
 induction d with
 | zero=>rfl
 | succ d ih=>
  rw[show 64*xs.length+(d+1)=64*xs.length+d+1 by omega];simp only[cntB];rw[ih,JC xs _ (by omega)];simp
theorem xd(xs:List Nat)(g:Nat):cntB xs (512*(g+1))=cntB xs (512*g)+cntB (aA xs g) (64*(aA xs g).length):=by
 have a:=rt xs g 512 (by omega);have hl:(aA xs g).length<=8:=by rw[dA];omega
 have b:=Il (aA xs g) (512-64*(aA xs g).length);rw[show 64*(aA xs g).length+(512-64*(aA xs g).length)=512 by omega]at b;rw[show 512*(g+1)=512*g+512 by omega,a,b]
def iz(ws:List Nat)(q:Nat):List Int:=(List.range 8).map fun j=>if j<q then (cntB ws (64*j):Int)else 0
def fw(ws:List Nat):List Int:=iz ws ws.length
theorem jO(ws:List Nat)(q:Nat):(iz ws q).length=8:=by simp[iz]
theorem kC(ws:List Nat):(fw ws).length=8:=jO _ _
theorem qQ(ws:List Nat)(q i:Nat)(h:i<8):gi (iz ws q) i=if i<q then (cntB ws (64*i):Int)else 0:=iO _ _ _ h
theorem JV(ws:List Nat):iz ws 0=List.replicate 8 0:=by
 unfold iz;simp;rfl
theorem Ga(l:List Int)(i j:Nat)(v:Int)(h:i<l.length):gi (l.set i v) j=if i=j then v else gi l j:=by
 unfold gi;rw[List.getD_eq_getElem?_getD,List.getD_eq_getElem?_getD,List.getElem?_set];by_cases c:i=j
 .subst c;simp[h]
 .simp[c]
theorem JW(ws:List Nat)(q:Nat)(h:q<8):(iz ws q).set q (cntB ws (64*q):Int)=iz ws (q+1):=by
 refine jt (by simp[jO]) fun i hi=>?_;rw[List.length_set,jO]at hi;rw[Ga _ _ _ _ (by rw[jO];exact h),qQ _ _ _ hi,qQ _ _ _ hi];by_cases c:q=i
 .subst c;rw[if_pos rfl,if_pos (by omega)]
 .rw[if_neg c];by_cases d:i<q
  .rw[if_pos d,if_pos (by omega)]
  .rw[if_neg d,if_neg (by omega)]
theorem Ik(ws:List Nat)(q:Nat):cntB ws (64*(q+1))=cntB ws (64*q)+cnt (gt ws q) 64:=by
 have:=jX ws q 64 (Nat.le_refl _);rw[show 64*(q+1)=64*q+64 by omega];exact this
def ahT(xs:List Nat)(g:Nat):List Int:=(fw (aA xs g)).take (aA xs g).length
theorem jN(xs:List Nat)(g:Nat):(ahT xs g).length=(aA xs g).length:=by
 unfold ahT;rw[List.length_take,kC,dA];omega
theorem kQ(l:List Int)(n i:Nat)(h:i<n):gi (l.take n) i=gi l i:=by
 unfold gi;rw[List.getD_eq_getElem?_getD,List.getD_eq_getElem?_getD,List.getElem?_take_of_lt h]
theorem qO(l:List Int)(n i:Nat):gi (l.drop n) i=gi l (n+i):=by
 unfold gi;rw[List.getD_eq_getElem?_getD,List.getD_eq_getElem?_getD,List.getElem?_drop]
theorem qP(xs:List Nat)(g i:Nat)(h:i<(aA xs g).length):gi (ahT xs g) i=(cntB (aA xs g) (64*i):Int):=by
 have:=dA xs g;unfold ahT;rw[kQ _ _ _ h];unfold fw;rw[qQ _ _ _ (by omega),if_pos h]
theorem ru(N:Int)(xs:List Nat)(h:ar N xs=true):∃m:Nat,N=(m:Int)/\m<=1048576/\xs.length=(m+63)/64:=by
 obtain⟨h0,h1,h2,_⟩:=bp N xs h;exact⟨N.toNat,by omega,by omega,by omega⟩
theorem pW(m:Nat)(xs:List Nat)(hk:ar (m:Int) xs=true)(i:Nat)(hi:i<=m):onesI (m:Int) xs (i:Int)=(cntB xs i:Int):=by
 unfold onesI;rw[if_pos hk,show(min (i:Int) (m:Int)).toNat=i by omega]
theorem mX(m:Nat)(xs:List Nat)(hk:ar (m:Int) xs=true)(g:Nat)(hg:g<=m/512):fG (m:Int) xs g=(cntB xs (512*g):Int):=by
 unfold fG;have:=pW m xs hk (512*g) (by omega);rw[<-this];congr 1
theorem pu(m:Nat)(xs:List Nat)(hk:ar (m:Int) xs=true)(hl:xs.length=(m+63)/64)(g i:Nat)(hi:i<(aA xs g).length):fH (m:Int) xs (8*g+i)=(cntB (aA xs g) (64*i):Int):=by
 rw[dA]at hi;unfold fH;have a:=pW m xs hk (64*(8*g+i)) (by omega);have b:=mX m xs hk g (by omega);have c:=rt xs g (64*i) (by omega)
 rw[show 512*g+64*i=64*(8*g+i)by omega]at c;rw[show(64*((8*g+i:Nat):Int))=((64*(8*g+i):Nat):Int)by omega,a,show(8*g+i)/8=g by omega,b,c];omega
theorem yK(m:Nat)(xs:List Nat)(hk:ar (m:Int) xs=true)(hl:xs.length=(m+63)/64)(g:Nat)(hg:8*g<=xs.length):dF (m:Int) xs (8*g)++ahT xs g=dF (m:Int) xs (8*g+(aA xs g).length):=by
 refine jt (by rw[List.length_append,jn,jn,jN]) fun i hi=>?_;rw[List.length_append,jn,jN]at hi;rw[kR _ _ _ _ hi];by_cases c:i<8*g
 .have:gi (dF (m:Int) xs (8*g)++ahT xs g) i=gi (dF (m:Int) xs (8*g)) i:=by
   unfold gi;rw[List.getD_eq_getElem?_getD,List.getD_eq_getElem?_getD,List.getElem?_append_left (by rw[jn];exact c)]
  rw[this,kR _ _ _ _ c]
 .have:gi (dF (m:Int) xs (8*g)++ahT xs g) i=gi (ahT xs g) (i-8*g):=by
   unfold gi;rw[List.getD_eq_getElem?_getD,List.getD_eq_getElem?_getD,List.getElem?_append_right (by rw[jn];omega),jn]
  rw[this,qP xs g _ (by omega),<-pu m xs hk hl g (i-8*g) (by omega),show 8*g+(i-8*g)=i by omega]
def wb(xs:List Nat)(bit:Bool)(j:Nat):Nat:=if bit then gt xs j else 18446744073709551615-gt xs j
theorem yi(xs:List Nat)(hf:Fit xs)(bit:Bool)(j:Nat):wb xs bit j<18446744073709551616:=by
 have:=hf j;unfold wb;split<;>omega
theorem rz(xs:List Nat)(hf:Fit xs)(bit:Bool)(j r:Nat)(hr:r<=64):cB xs bit (64*j+r)=cB xs bit (64*j)+cnt (wb xs bit j) r:=by
 have a:=jX xs j r hr;have l:=et xs (64*j);have l2:=dh (gt xs j) r;unfold cB wb;cases bit with
 | true=>simp only[if_true];exact a
 | false=>
  have f:=oL (gt xs j) r 64 (by have:=hf j;omega) hr;rw[show(2^64-1-gt xs j)=18446744073709551615-gt xs j by omega]at f;simp only[Bool.false_eq_true,if_false];rw[a,f];omega
theorem yj(xs:List Nat)(hf:Fit xs)(bit:Bool)(j r:Nat)(hr:r<64)(h:bitAt xs (64*j+r)=bit):wb xs bit j/2^r%2=1:=by
 have a:=rz xs hf bit j r (by omega);have b:=rz xs hf bit j (r+1) (by omega);have c:=iR xs bit (64*j+r);rw[if_pos h]at c;rw[show 64*j+(r+1)=64*j+r+1 by omega]at b;simp only[cnt]at b
 have:(wb xs bit j/2^r%2)<2:=Nat.mod_lt _ (by decide);revert b;generalize wb xs bit j/2^r%2=z at *;intro b;omega
theorem y4(m:Nat)(xs:List Nat)(hf:Fit xs)(hl:xs.length=(m+63)/64)(bit:Bool)(k j:Nat)(hk:k<cB xs bit m)(hj:j<=xs.length-1)
  (h1:∀i,i<j->cB xs bit (64*(i+1))<=k) (h2:∀i,j<=i->i<xs.length-1->k<cB xs bit (64*(i+1))):
  cB xs bit (64*j)<=k/\∃r:Nat,r<64/\iD (wb xs bit j:Int) ((k:Int)-(cB xs bit (64*j):Int))=(r:Int)/\cd (m:Int) xs bit (k:Int)=some (64*j+r):=by
 have hle:cB xs bit (64*j)<=k:=by
  by_cases c:j=0
  .subst c;have:=fq xs bit (64*0);omega
  .have:=h1 (j-1) (by omega);rw[show j-1+1=j by omega]at this;exact this
 refine⟨hle,?_⟩;have hs:(cd (m:Int) xs bit (k:Int)).isSome=true:=(jb _ _ _ _).2 ⟨by omega,by rw[Int.toNat_natCast];omega⟩;obtain⟨i,hi⟩:=Option.isSome_iff_exists.1 hs
 obtain⟨g1,g2,g3⟩:=pR _ _ _ _ _ hi;rw[Int.toNat_natCast]at g1
 have e1:64*j<=i:=by
  apply Nat.le_of_not_lt;intro c;have a:=iR xs bit i;rw[if_pos g2]at a;have b:=iS xs bit (i+1) (64*j-(i+1));rw[show i+1+(64*j-(i+1))=64*j by omega]at b;omega
 have e2:i<64*(j+1):=by
  apply Nat.lt_of_not_le;intro c;have a:=h2 j (Nat.le_refl _) (by omega);have b:=iS xs bit (64*(j+1)) (i-64*(j+1));rw[show 64*(j+1)+(i-64*(j+1))=i by omega]at b;omega
 have ei:i=64*j+(i-64*j):=by omega
 refine⟨i-64*j,by omega,?_,by rw[<-ei];exact hi⟩;have w1:=yj xs hf bit j (i-64*j) (by omega) (by rw[<-ei];exact g2);have w2:=rz xs hf bit j (i-64*j) (by omega);rw[<-ei]at w2;unfold iD
 rw[Int.toNat_natCast];have:=tm (wb xs bit j) ((k:Int)-(cB xs bit (64*j):Int)) (i-64*j) w1 (by omega) (i-64*j) 0 (by omega) (by omega);rw[show 64-0=64 from rfl]at this;rw[this]
theorem Gz(xs:List Nat)(hf:Fit xs)(j:Nat):Go.bits .xor .u64 18446744073709551615 (gt xs j:Int)=(wb xs false j:Int):=by
 have h:=hf j;rw[wI _ (by omega) (by omega),Int.toNat_natCast];unfold wb;simp
theorem Hl(m:Nat)(xs:List Nat)(hf:Fit xs)(hk:ar (m:Int) xs=true)(hl:xs.length=(m+63)/64)(j r:Nat)(h0:0<r)(h1:r<=64)(h2:64*j+r<=m):
  fG (m:Int) xs (j/8)+fH (m:Int) xs j+dH (gt xs j:Int) (r:Int)=(cntB xs (64*j+r):Int):=by
 have a:=pW m xs hk (64*j) (by omega);have b:=jX xs j r h1;unfold fH dH;rw[show(64*(j:Int))=((64*j:Nat):Int)by omega,a,b,Int.toNat_natCast,Int.toNat_natCast,show min r 64=r by omega]
 omega
theorem lV(N:Int)(xs:List Nat)(su sb:List Int)(h:pchk N xs su sb=true):∃m:Nat,N=(m:Int)/\m<=1048576/\xs.length=(m+63)/64/\ar (m:Int) xs=true/\su=supL (m:Int) xs/\sb=subL (m:Int) xs:=by
 obtain⟨a,b,c⟩:=lU N xs su sb h;obtain⟨m,rfl,h1,h2⟩:=ru N xs a;exact⟨m,rfl,h1,h2,a,b,c⟩
end Bit
open Go.RowKit Num Bit
theorem wj(m:Nat)(hm:m<=1048576)(ao:Option Addr)(n cap:Nat)(w:World):
  Qq 149 #[.agg #[.int .i64 m,.slice ao n cap]] w (.int .i64 ((m/512+1:Nat):Int)):=by
 go_enter func149,ntmps149;go_wp2;go_ret;exact⟨cD (by omega),below_alloc w _⟩
theorem tG{a:Option Addr}{n k c:Nat}(h:n=k):Ending.returned (.slice a n c)=.returned (.slice a k c):=by rw[h]
theorem yd{w w':World}{b off:Nat}{xs:List Nat}(hb:b<w.heap.size)(hcc:∀i,i<xs.length->w.cell? ⟨b,off+i,none⟩=some (.int .u64 (gt xs i)))(hw:Below w.heap.size w w')(g:Nat):Wd w' (some ⟨b,off+8*g,none⟩) (aA xs g):=by
 intro h0;refine⟨b,off+8*g,rfl,Nat.lt_of_lt_of_le hb hw.size,fun i hi=>?_⟩;rw[dA]at hi;rw[qG xs g i (by omega),hw.cell (p:=⟨b,off+8*g+i,none⟩) hb,Nat.add_assoc];exact hcc _ (by omega)
theorem yb(w:World)(bo:Option Addr){xs:List Nat}(h:xs.length=0):Wd w bo xs:=fun h0=>absurd h0 (by omega)
def rN(xs:List Nat)(g:Nat)(w:World)(e:Ending)(w':World):Prop:=∃bo bc,e=.returned (.slice bo (aA xs g).length bc)/\Wd w' bo (aA xs g)/\Below w.heap.size w w'
theorem r_{xs:List Nat}{g n:Nat}{w w':World}{e:Ending}{bo:Option Addr}{k bc:Nat}(hn:Hid (n=xs.length))(hw:Below w.heap.size w w')(he:e=.returned (.slice bo k bc))(h8:n<=8*g)(hk:k=0):rN xs g w e w':=by
 have h0:(aA xs g).length=0:=by rw[dA];have:=hn.out;omega
 subst he hk;exact⟨bo,bc,tG h0.symm,yb _ _ h0,hw⟩
theorem r9{xs:List Nat}{g n:Nat}{w w':World}{e:Ending}{b off:Nat}{k bc:Nat}(hn:Hid (n=xs.length))(hx:Hid (Wd w (some ⟨b,off,none⟩) xs))(hw:Below w.heap.size w w')(o2:Nat)(he:e=.returned (.slice (some ⟨b,o2,none⟩) k bc))(h8:8*g<n)(ho:o2=off+8*g)(hk:k=min (8*g+8) n-8*g):rN xs g w e w':=by
 have h0:(aA xs g).length=k:=by rw[dA];have:=hn.out;omega
 obtain⟨b',off',e2,hb,hcc⟩:=hx.out (by have:=hn.out;omega);simp only[Option.some.injEq,Addr.mk.injEq]at e2;obtain⟨rfl,rfl,_⟩:=e2;subst he ho;exact⟨_,bc,tG h0.symm,yd hb hcc hw g,hw⟩
theorem xZ(m:Nat)(hm:m<=1048576)(ao:Option Addr)(xs:List Nat)(cap n g:Nat)(HN:Hid (n=xs.length))(l1:8*g<=n)(l2:n<=16384)(hcap:n<=cap)(w:World)(HX:Hid (Wd w ao xs)):
  Calls prog 150 #[.agg #[.int .i64 m,.slice ao n cap],.int .i64 g] w (rN xs g w):=by
 by_cases h8:n=8*g
 .have d1:(n:Int)<((g:Int)+1)*8:=by omega
  cases ao with
  | none=>
   go_enter func150,ntmps150;go_wp2;all_goals go_ret
   all_goals exact r_ HN (below_alloc w _) rfl (by omega) (by omega)
  | some a=>
   go_enter func150,ntmps150;go_wp2;all_goals go_ret
   all_goals exact r_ HN (below_alloc w _) rfl (by omega) (by omega)
 .obtain⟨b,off,rfl,hb,hcc⟩:=HX.out (by have:=HN.out;omega);clear hcc hb;have h8':8*g<n:=by omega
  have h9:8*g<cap:=by omega
  by_cases h10:n<8*g+8
  .have d1:(n:Int)<((g:Int)+1)*8:=by omega
   go_enter func150,ntmps150;go_wp2;all_goals go_ret
   all_goals exact r9 HN HX (below_alloc w _) _ rfl (by omega) (by omega) (by omega)
  .have d1:¬(n:Int)<((g:Int)+1)*8:=by omega
   have d2:((g:Int)+1)*8<=(n:Int):=by omega
   go_enter func150,ntmps150;go_wp2;all_goals go_ret
   all_goals exact r9 HN HX (below_alloc w _) _ rfl (by omega) (by omega) (by omega)
theorem si(m:Nat)(hm:m<=1048576)(ao:Option Addr)(xs:List Nat)(cap:Nat)(hl:xs.length=(m+63)/64)(hcap:xs.length<=cap)(g:Nat)(hg:g<=m/512)(w:World)(hx:Wd w ao xs):
  Calls prog 150 #[.agg #[.int .i64 m,.slice ao xs.length cap],.int .i64 g] w fun e w'=>∃bo bc,e=.returned (.slice bo (aA xs g).length bc)/\Wd w' bo (aA xs g)/\Below w.heap.size w w':=
 xZ m hm ao xs cap xs.length g rfl (by omega) (by omega) hcap w hx
theorem vP:(prog.info? 209).map (fun i=>(i.zero,i.size))=some (some (.agg (iv (List.replicate 8 0)).toArray),8):=by kernel_rfl
theorem rM(l:List Int)(h:l.length=8):(prog.info? 209).map (·.size)=some (iv l).toArray.size:=by
 rw[(zero_of_info vP).2,List.size_toArray,mj,h]
theorem CA(l:List Int):(iv l).toArray.all (·.oneCell')=true:=by
 rw[List.all_toArray,List.all_eq_true];intro v hv;obtain⟨a,_,rfl⟩:=List.mem_map.1 hv;rfl
theorem xq{w:World}{g:Nat}{l:List Int}{T:TypeId}(h:aa w g (iv l) T)(j:Nat)(hj:j<l.length):w.cell? ⟨g,j,none⟩=some (.int .i64 (gi l j)):=h.cell j (oe l j hj)
theorem IK{w:World}{g:Nat}{l:List Int}{T:TypeId}(h:aa w g (iv l) T)(j:Nat)(v:Int):aa (w.setCell ⟨g,j,none⟩ (.int .i64 v)) g (iv (l.set j v)) T:=by
 have:=h.set j (.int .i64 v);rwa [show(iv l).set j (.int .i64 v)=iv (l.set j v)by simp[iv,List.map_set]]at this
theorem oX{ops:Array Oper}{rest:List Oper}{d:Option Tmp}{ty:TypeId}{ps:String}{af:Array Edge}{a:Act}{w:World}{Q:Exit->Act->World->Prop}
  (h:∀w1,aa w1 w.heap.size (iv (List.replicate 8 0)) 209->Below w.heap.size w w1->w.heap.size<w1.heap.size->wpList prog ops Q rest (a.put d (.pointer (some ⟨w.heap.size,0,none⟩))) w1):
  wpList prog ops Q (⟨d,.alloc 209,ty,ps,af,none⟩::rest) a w:=by
 refine wpList_plain rfl fun K hK=>?_;unfold Oper.wp execOp;have z:=(zero_of_info vP).1;have nw:=h _ (aa.new w _ _) (below_alloc w _) (by simp);refine cast ?_ (hK _ _ nw)
 simp[Instr.alloc,Sem.run_bind,z,newVar,Value.cells,go_sem]
theorem pw{ops:Array Oper}{rest:List Oper}{d:Option Tmp}{ty:TypeId}{ps:String}{af:Array Edge}{a:Act}{w:World}{Q:Exit->Act->World->Prop}{x y:Operand}
  (g:Nat) (old ys:List Int) (hx:a.eval x=.pointer (some ⟨g,0,none⟩)) (hy:a.eval y=.agg (iv ys).toArray) (hc:aa w g (iv old) 209) (lo:old.length=8) (ly:ys.length=8)
  (h:∀w1,aa w1 g (iv ys) 209->aw g w w1->wpList prog ops Q rest (a.put d undef) w1):
  wpList prog ops Q (⟨d,.store 209 x y,ty,ps,af,none⟩::rest) a w:=
 wpList_store_row rfl _ x y rfl g _ hx hy _ _ hc (rM ys ly) (by simp[mj,lo,ly]) (CA ys) (h _ (setRow_heap w g _ _ _ _ hc) (aw.row g w _))
theorem DQ{ops:Array Oper}{rest:List Oper}{d:Option Tmp}{ty:TypeId}{ps:String}{af:Array Edge}{a:Act}{w:World}{Q:Exit->Act->World->Prop}{x:Operand}
  (g:Nat) (ys:List Int) (hx:a.eval x=.pointer (some ⟨g,0,none⟩)) (hc:aa w g (iv ys) 209) (ly:ys.length=8)
  (h:wpList prog ops Q rest (a.put d (.agg (iv ys).toArray)) w):
  wpList prog ops Q (⟨d,.load 209 x,ty,ps,af,none⟩::rest) a w:=
 wpList_load_row rfl _ x rfl g hx _ _ _ _ hc underlying209 rfl (rM ys ly) h
theorem AR{fn:Func}{p:Tmp}{w:World}{tmps:Array Value}{u:Tmp}(h:fn.results=#[.cell p 209,.tmp u])(g:Nat)(ys:List Int)(ly:ys.length=8)(hp:tmps.getD p undef=.pointer (some ⟨g,0,none⟩))(hc:aa w g (iv ys) 209):
  (results fn tmps).run prog w=.ok (.tuple #[.agg (iv ys).toArray,tmps.getD u undef]) w:=by
 have hp':tmps[p]?.getD undef=.pointer (some ⟨g,0,none⟩):=by simpa using hp
 have hl:=run_loadVar_row (P:=prog) w g 209 209 (iv ys).toArray (0,0) _ hc underlying209 rfl (rM ys ly);simp[results,h,hp',asAddr,hl]
theorem wU(ao:Option Addr)(ws:List Nat)(cap:Nat)(w:World)(hx:Wd w ao ws)(hf:Fit ws)(hl:ws.length<=8):
  Qq 151 #[.slice ao ws.length cap] w (.tuple #[.agg (iv (fw ws)).toArray,.int .i64 (cntB ws (64*ws.length):Nat)]):=by
 go_enter func151,ntmps151;go_wp2_with (refine oX ?_);intro w1 hc1 hb1 hs1;go_wp2_with (refine oX ?_);intro w2 hc2 hb2 hs2;have hA:Below w.heap.size w w2:=hb1.trans (hb2.mono (by omega))
 have hR:=hc1.kept hb2;have hlt:w.heap.size<w1.heap.size:=hs1;clear hc1 hb1 hs1 hb2 hs2;generalize w1.heap.size=g at *;simp only[Act.put,ae,List.set];go_wp2
 go_loopw [5,9] (fun t s wr=>∃q:Nat,q<=ws.length/\s=.int .i64 q/\t=.int .i64 (cntB ws (64*q):Nat)/\aa wr g (iv (iz ws q)) 209/\aa wr w.heap.size (iv (List.replicate 8 0)) 209/\Below w.heap.size w wr) (fun _ s _=>ws.length-(intOf s).toNat)
 case atStart=>exact⟨0,Nat.zero_le _,rfl,rfl,by rw[JV];exact hc2,hR,hA⟩
 case round=>
  obtain⟨q,hq,rfl,rfl,hc,hr,hb⟩:=hrel;clear hc2 hR hA;by_cases hi:q<ws.length
  .have hi2:(q:Int)<(ws.length:Int):=by omega
   have hi3:(q:Int)<8:=by omega
   obtain⟨b,off,rfl,hbl,hcc⟩:=hx (by omega);have e1:=xq hc q (by rw[jO];omega);have fz:=hc.frozen q;have st:=IK hc q (cntB ws (64*q):Nat);rw[JW ws q (by omega)]at st
   have hr2:=hr.other (a:=⟨g,q,none⟩) (by show w.heap.size≠g;omega) (.int .i64 (cntB ws (64*q):Nat))
   have hb2:Below w.heap.size w (wr.setCell ⟨g,q,none⟩ (.int .i64 (cntB ws (64*q):Nat))):=hb.setCell (by show w.heap.size<=g;omega) _;have e2:=(hb2.cell (p:=⟨b,off+q,none⟩) hbl).trans (hcc q hi)
   have bd:=et ws (64*q);have stp:=Ik ws q;have hfq:=hf q;have hp:Hid (dI (gt ws q:Int)=((cnt (gt ws q) 64:Nat):Int)):=by show dI (gt ws q:Int)=_;unfold dI;rw[Int.toNat_natCast]
   have hc64:=dh (gt ws q) 64
   have C:Hid (∀w0,Qx 218 #[.int .u64 (gt ws q:Int)] w0 (.int .i64 ((cnt (gt ws q) 64:Nat):Int))):=by
    intro w0;have:=nr (gt ws q:Int) (Int.natCast_nonneg _) (Int.ofNat_lt.2 hfq) w0;rw[hp.out]at this;exact this
   have HF:Hid (aa (wr.setCell ⟨g,q,none⟩ (.int .i64 (cntB ws (64*q):Nat))) g (iv (iz ws (q+1))) 209/\aa (wr.setCell ⟨g,q,none⟩ (.int .i64 (cntB ws (64*q):Nat))) w.heap.size (iv (List.replicate 8 0)) 209/\Below w.heap.size w (wr.setCell ⟨g,q,none⟩ (.int .i64 (cntB ws (64*q):Nat)))):=⟨st,hr2,hb2⟩
   have HS:Hid (cntB ws (64*(q+1))=cntB ws (64*q)+cnt (gt ws q) 64):=stp;clear st hr2 hb2 hc hr hb hcc hp stp;generalize cnt (gt ws q) 64=D at *;generalize cntB ws (64*q)=Z at *;go_wp2_with fail
   refine(C.out _).mono ?_;rintro e w4 ⟨rfl,rfl⟩;go_wp2;refine⟨⟨q+1,by omega,by go_num,?_,HF.out⟩,by simp only[intOf];omega⟩;rw[HS.out];go_num
  .obtain rfl:q=ws.length:=by omega
   have HB:Hid (Below w.heap.size w wr):=hb;clear hb hx;go_wp2_with (first | refine DQ g _ rfl hc (jO _ _) ?_ | refine pw w.heap.size _ _ rfl rfl hr (by simp) (jO _ _) ?_);intro w5 hc5 hb5
   have HC:Hid (aa w5 w.heap.size (iv (fw ws)) 209):=hc5;have HB5:Hid (Below w.heap.size w w5):=HB.out.trans (hb5.below (Nat.le_refl _));clear hc5 hb5 hc hr;go_wp2
   (try simp only[Exit.inBlock,Exit.then]);exact bodyPost_ret (AR rfl w.heap.size (fw ws) (kC ws) rfl HC.out) rfl ⟨rfl,HB5.out⟩
theorem FD:(prog.info? 81).map (fun i=>(i.zero,i.size,i.bytes))=some (some (.int .u64 0),1,8):=by kernel_rfl
def jK(ys:List Nat):List Value:=ys.map fun y:Nat=>Value.int .u64 (y:Int)
theorem qp(ys:List Nat):(jK ys).length=ys.length:=by simp[jK]
theorem tW(l:List Nat)(i:Nat)(h:i<l.length):(jK l)[i]?=some (.int .u64 (gt l i)):=by
 unfold jK;rw[List.getElem?_map,gt_get l i h];rfl
theorem ya{w:World}{base n c:Nat}{ao:Option Addr}{l:List Nat}(h:w.ownsRow base 81 1 (.slice ao n c) n (jK l)):Wd w ao l:=by
 intro h0;have hlen:(jK l).length=n*1:=h.1;rw[qp]at hlen;have hk:=fun k hk=>h.lt k hk;have hc:=fun g hg=>h.cells (g:=g) hg;obtain⟨_,⟨e,e2⟩ | ⟨g,cap,cur,e,_⟩⟩:=h
 .omega
 .simp only[Value.slice.injEq]at e;obtain⟨rfl,_,rfl⟩:=e;refine⟨g,0,rfl,(hk g rfl).2,fun i hi=>?_⟩;rw[<-hc g rfl i _ (tW l i hi)];unfold Addr.add;split
  .subst_vars;rfl
  .simp
theorem wP(a:Option Addr)(l c:Nat)(w:World):(binOp .eql 31 (.slice a l c) (.slice none 0 0)).run prog w=.ok (.bool a.isNone) w:=by
 simp only[binOp];simp[run_equal_slice_nil w 31 81 a l c underlying31]
theorem Ip(ao:Option Addr)(xs:List Nat)(cap:Nat)(w:World)(hx:Wd w ao xs)(hl:xs.length<=1048576):
  Calls prog 217 #[.slice ao xs.length cap] w fun e w'=>∃bo bc,e=.returned (.slice bo xs.length bc)/\Wd w' bo xs/\xs.length<=bc/\Below w.heap.size w w':=by
 cases ao with
 | none=>
  have h0:xs=[]:=by
   cases xs with
   | nil=>rfl
   | cons a t=>
    obtain⟨b,off,e,_⟩:=hx (by simp);cases e
  subst h0;have hq:=wP none 0 cap;have hq2:(none:Option Addr).isNone=true:=rfl;go_enter func217,ntmps217;go_wp2;go_ret;exact⟨none,0,rfl,dU _ _,Nat.le_refl _,Below.refl _ _⟩
 | some a=>
  obtain⟨i0,hi,hz0,hz1,hz2⟩:=info_parts FD;have hq:=wP (some a) xs.length cap;have hq2:(some a).isNone=false:=rfl;go_enter func217,ntmps217
  go_wp2_with (at_builtin;refine Ap.wpList_append_u (by rfl) _ _ _ (by rfl) w.heap.size 81 i0 (.int .u64 0) 8 underlying31 hi hz0 hz1 hz2 rfl (.slice (some ⟨w.heap.size,0,none⟩) 0 0) 0 [] (by rfl) ?c0 (some a) xs.length cap (jK xs) (by rfl) (qp xs) ?c1 ?c2 ?c3 ?c4 ?c5 ?_)
  case c0=>
   exact⟨rfl,.inr ⟨w.heap.size,0,#[],rfl,Nat.le_refl _,aa.new w [] 81,Nat.le_refl _,by simp⟩⟩
  case c1=>
   intro h0;refine⟨a,rfl,fun j u hj=>?_⟩;obtain⟨b,off,e,hlt,hc⟩:=hx h0;obtain rfl:=Option.some.inj e
   have hjl:j<xs.length:=by
    have:=(List.getElem?_eq_some_iff.1 hj).1;rw[qp]at this;exact this
   rw[tW xs j hjl]at hj;obtain rfl:=Option.some.inj hj;rw[show(Addr.add ⟨b,off,none⟩ j)=⟨b,off+j,none⟩by unfold Addr.add;split<;>(try subst_vars)<;>rfl]
   rw[(below_alloc w _).cell (p:=⟨b,off+j,none⟩) hlt];exact hc j hjl
  case c2=>intro u hu;obtain⟨y,_,rfl⟩:=List.mem_map.1 hu;rfl
  case c3=>unfold maxLen;omega
  case c4=>omega
  case c5=>simp
  intro bo bc w1 hown hle hb;have hB:Below w.heap.size w w1:=(below_alloc w _).trans hb;have hW:=ya hown;have HF:Hid (Wd w1 bo xs/\xs.length<=bc/\Below w.heap.size w w1):=⟨hW,hle,hB⟩
  clear hown hb hW hB hx hq hi hz0 hz1 hz2;go_wp2;go_ret;exact⟨bo,bc,rfl,HF.out⟩
theorem Ad(n:Nat)(hn:n<=1048576)(c1 c2 c3:Addr)(p:Nat->Bool)(w:World)
  (hf:Hid (∀(i:Nat) w0,i<n->Below w.heap.size w w0->Qq 252 #[.int .i64 i,.pointer (some c1),.pointer (some c2),.pointer (some c3)] w0 (.bool (p i)))) (hp:Hid (∀i j,i<=j->p i=true->p j=true)):
  Calls prog 251 #[.int .i64 n,.func (.func 252) #[] #[.pointer (some c1),.pointer (some c2),.pointer (some c3)]] w fun e w'=>∃j:Nat,e=.returned (.int .i64 j)/\j<=n/\(∀i,i<j->p i=false)/\(∀i,j<=i->i<n->p i=true)/\Below w.heap.size w w':=by
 go_enter func251,ntmps251;go_wp2
 go_loopw [5,6] (fun s t wr=>∃i j:Nat,i<=j/\j<=n/\s=.int .i64 i/\t=.int .i64 j/\Hid (∀q,q<i->p q=false)/\Hid (∀q,j<=q->q<n->p q=true)/\Below w.heap.size w wr) (fun s t _=>(intOf t).toNat-(intOf s).toNat)
 case atStart=>exact⟨0,n,by omega,by omega,rfl,rfl,fun q hq=>absurd hq (by omega),fun q h1 h2=>absurd h1 (by omega),Below.refl _ _⟩
 case round=>
  obtain⟨i,j,hij,hj,rfl,rfl,H1,H2,hw⟩:=hrel;by_cases hlt:i<j
  .have hlt2:(i:Int)<(j:Int):=by omega
   have hm:(((i+j)/2:Nat):Int)=((i:Int)+(j:Int))/2:=by omega
   have C:Hid (Qq 252 #[.int .i64 (((i:Int)+(j:Int))/2),.pointer (some c1),.pointer (some c2),.pointer (some c3)] wr (.bool (p ((i+j)/2)))):=by
    have:=hf.out ((i+j)/2) wr (by omega) hw;rw[hm]at this;exact this
   have mu:IntKind.i64.wrap (((i:Int)+(j:Int))/2+1)=((i:Int)+(j:Int))/2+1:=by rw[IntKind.wrap_i64];omega
   clear hf;go_wp2_with fail;refine C.out.mono ?_;rintro e w1 ⟨rfl,hb⟩;have hw1:=bg hw hb;clear hb C;cases hq:p ((i+j)/2)with
   | true=>
    go_wp2;refine⟨⟨i,(i+j)/2,by omega,by omega,rfl,by rw[hm],H1,?_,hw1⟩,by simp only[intOf];omega⟩;intro q h1 h2;exact hp.out _ _ h1 hq
   | false=>
    go_wp2;refine⟨⟨(i+j)/2+1,j,by omega,by omega,by rw[<-hm];rfl,rfl,?_,H2,hw1⟩,by simp only[intOf];omega⟩;intro q h1;cases hq2:p q with
    | false=>rfl
    | true=>
     have:=hp.out q ((i+j)/2) (by omega) hq2;rw[hq]at this;exact this.symm
  .have hlt2:¬(i:Int)<(j:Int):=by omega
   go_wp2;go_ret;exact⟨i,rfl,by omega,H1.out,fun q h1 h2=>H2.out q (by omega) h2,hw⟩
def Ke(N:Int)(xs:List Nat)(w:World)(e:Ending)(w':World):Prop:=∃bo bc,e=.returned (.agg #[.int .i64 N,.slice bo xs.length bc])/\Wd w' bo xs/\xs.length<=bc/\Below w.heap.size w w'
theorem uh(N:Int)(ao:Option Addr)(xs:List Nat)(cap:Nat)(w:World)(hx:Wd w ao xs)(hl:xs.length<=1048576):
  Calls prog 148 #[.agg #[.int .i64 N,.slice ao xs.length cap]] w (Ke N xs w):=by
 go_enter func148,ntmps148;go_wp2;obtain⟨W,hW⟩:∃W,W=(w.alloc (.cells #[.int .i64 N,.slice ao xs.length cap] 33)).alloc (.cells #[.int .i64 0,.slice none 0 0] 33):=⟨_,rfl⟩;have bW:=cW hW;have B1:=eU hW
 have B2:=dE hW;rw[<-hW];clear hW;refine aB [6] (fun w'=>aa w' w.heap.size [.int .i64 N,.slice ao xs.length cap] 33/\aa w' (w.heap.size+1) [.int .i64 0,.slice none 0 0] 33) (by kernel_rfl) ?_
 have hS:aa W.drew w.heap.size [.int .i64 N,.slice ao xs.length cap] 33/\aa W.drew (w.heap.size+1) [.int .i64 0,.slice none 0 0] 33:=⟨B1,B2⟩;have bW2:Below w.heap.size w W.drew:=bW.drew;generalize W.drew=V at *
 clear B1 B2 bW;refine aK 0 hS ?_;refine aF 1 hS rfl (fun w0 h0=>by have c0:=h0.1.cell 0 rfl;go_simp;try with_reducible rfl) ?_;refine aK 2 hS ?_
 refine aF 3 hS rfl (fun w0 h0=>by have c1:=h0.1.cell 1 rfl;go_simp;try with_reducible rfl) ?_;refine aO 4 ?_;intro K hK;go_simp;refine(Ip _ _ _ _ (hx.keep bW2) hl).mono ?_
 rintro e w2 ⟨bo,bc,rfl,hO,hle,hb⟩;have hS2:=And.intro (hS.1.kept hb) (hS.2.kept hb);have bw2:=bg bW2 hb;refine hK.out _ _ (fun _=>hS2) ?_;clear hK K;try simp only[Act.put,ae,ah,ag]
 refine aK 5 hS2 ?_;refine aO 6 ?_;intro K hK;have x0:=hS2.2.cell 0 rfl;have x1:=hS2.2.cell 1 rfl;have f0:=hS2.2.frozen 0;have f1:=hS2.2.frozen 1;go_simp;refine hK.out _ _ (fun h=>absurd (by decide) h) ?_
 clear hK K;try simp only[Act.put,ae,ah,ag]
 refine aq.done (by kernel_rfl) ?_ _;have hC:=(hS2.2.set 0 (.int .i64 N)).set 1 (.slice bo xs.length bc)
 have oW:aw (w.heap.size+1) w2 ((w2.setCell ⟨w.heap.size+1,0,none⟩ (.int .i64 N)).setCell ⟨w.heap.size+1,1,none⟩ (.slice bo xs.length bc)):=((aw.refl _ _).set 0 _).set 1 _
 have hW2:=oW.wd hO (hO.apart hS2.2 (by intro v hv n;simp at hv;rcases hv with rfl | rfl<;>simp))
 have HF:Hid (Wd ((w2.setCell ⟨w.heap.size+1,0,none⟩ (.int .i64 N)).setCell ⟨w.heap.size+1,1,none⟩ (.slice bo xs.length bc)) bo xs/\xs.length<=bc/\Below w.heap.size w ((w2.setCell ⟨w.heap.size+1,0,none⟩ (.int .i64 N)).setCell ⟨w.heap.size+1,1,none⟩ (.slice bo xs.length bc))):=⟨hW2,hle,bw2.trans (oW.below (Nat.le_succ _))⟩
 have k0:=hC.cell 0 rfl;have k1:=hC.cell 1 rfl;clear hW2 oW hC hO hle bw2 hS2 hS hb bW2 x0 x1 f0 f1;go_wp2
 exact bodyPost_ret (v:=.agg #[.int .i64 N,.slice bo xs.length bc]) (by simp[results,Tryz.results148,go_sem,k0,k1]) rfl ⟨bo,bc,rfl,HF.out⟩
def Kf(m:Nat)(xs:List Nat)(w:World)(e:Ending)(w':World):Prop:=∃bo bc so sc tO tc,e=.returned (.tuple #[.agg #[.int .i64 m,.slice bo xs.length bc,.slice so (supL (m:Int) xs).length sc,.slice tO (subL (m:Int) xs).length tc],.int .i64 0])/\lm w.heap.size w' bo xs bc so (supL (m:Int) xs) sc tO (subL (m:Int) xs) tc/\Below w.heap.size w w'
structure PB (w3 wr:World) (m n:Nat) (bo:Option Addr) (bc:Nat) (sv tv:Value) (G T:Nat) (xs:List Nat):Prop where
 bx:aa wr w3.heap.size [.int .i64 m,.slice bo n bc,sv,tv] 36
 hb:Below w3.heap.size w3 wr
 o1:wr.ownsRow (w3.heap.size+1) 3 1 sv G (iv (dW (m:Int) xs G))
 o2:wr.ownsRow (w3.heap.size+1) 3 1 tv T (iv (dF (m:Int) xs T))
 ap:Ap.Apart sv tv
theorem PB.keep{w3 wr w':World}{m n:Nat}{bo:Option Addr}{bc:Nat}{sv tv:Value}{G T:Nat}{xs:List Nat}(h:PB w3 wr m n bo bc sv tv G T xs)(hb:Below wr.heap.size wr w'):PB w3 w' m n bo bc sv tv G T xs:=
 ⟨h.bx.kept hb,h.hb.trans (hb.mono h.hb.size),Ap.owns_below h.o1 hb,Ap.owns_below h.o2 hb,h.ap⟩
theorem PB.sup{w3 wr w2:World}{m n:Nat}{bo:Option Addr}{bc:Nat}{sv tv u:Value}{G T:Nat}{xs:List Nat}(h:PB w3 wr m n bo bc sv tv G T xs)(ho:w2.ownsRow (w3.heap.size+1) 3 1 u (G+1) (iv (dW (m:Int) xs (G+1))))(hB:Below (w3.heap.size+1) wr w2)
  (hblk:∀k,u.ownBlock=some k->(sv.ownBlock=some k\/k=wr.heap.size)/\k<w2.heap.size) (hkeep:∀k,k<wr.heap.size->sv.ownBlock≠some k->w2.heap[k]?=wr.heap[k]?):
  PB w3 (w2.setCell ⟨w3.heap.size,2,none⟩ u) m n bo bc u tv (G+1) T xs:=
 ⟨(h.bx.keep hB (Nat.lt_succ_self _)).set 2 u,(h.hb.trans (hB.mono (Nat.le_succ _))).setCell (Nat.le_refl _) _,nC ho (Nat.lt_succ_self _),nC (Ap.owns_other h.o2 hkeep h.ap.symm) (Nat.lt_succ_self _),(Ap.apart_new h.o2 hblk h.ap.symm).symm⟩
theorem PB.sub{w3 wr w2:World}{m n:Nat}{bo:Option Addr}{bc:Nat}{sv tv u:Value}{G T T2:Nat}{xs:List Nat}(h:PB w3 wr m n bo bc sv tv G T xs)(ho:w2.ownsRow (w3.heap.size+1) 3 1 u T2 (iv (dF (m:Int) xs T2)))(hB:Below (w3.heap.size+1) wr w2)
  (hblk:∀k,u.ownBlock=some k->(tv.ownBlock=some k\/k=wr.heap.size)/\k<w2.heap.size) (hkeep:∀k,k<wr.heap.size->tv.ownBlock≠some k->w2.heap[k]?=wr.heap[k]?):
  PB w3 (w2.setCell ⟨w3.heap.size,3,none⟩ u) m n bo bc sv u G T2 xs:=
 ⟨(h.bx.keep hB (Nat.lt_succ_self _)).set 3 u,(h.hb.trans (hB.mono (Nat.le_succ _))).setCell (Nat.le_refl _) _,nC (Ap.owns_other h.o1 hkeep h.ap) (Nat.lt_succ_self _),nC ho (Nat.lt_succ_self _),Ap.apart_new h.o1 hblk h.ap⟩
theorem Fi(l k:List Int):iv l++iv k=iv (l++k):=by simp[iv]
theorem Ci(m:Nat)(ao:Option Addr)(xs:List Nat)(cap:Nat)(w:World)(hx:Wd w ao xs)(hf:Fit xs)(hcap:xs.length<=cap)(hk:ar (m:Int) xs=true)(hm:m<=1048576)(hl:xs.length=(m+63)/64):
  Calls prog 91 #[.agg #[.int .i64 m,.slice ao xs.length cap]] w (Kf m xs w):=by
 have hlx:xs.length<=16384:=by omega
 obtain⟨i0,hi,hz0,hz1,hz2⟩:=info_parts Tryz.info3
 obtain⟨W,hW⟩:∃W,W=(w.alloc (.cells #[.int .i64 m,.slice ao xs.length cap] 33)).alloc (.cells #[.int .i64 0,.slice none 0 0,.slice none 0 0,.slice none 0 0] 36):=⟨_,rfl⟩;have bW:=cW hW;have B1:=eU hW
 have B2:=dE hW
 have C1:Hid (∀w0,w0=W->Qq 147 #[.agg #[.int .i64 m,.slice ao xs.length cap]] w0 (.bool true)):=fun w0 h=>by
  subst h;have:=bi (m:Int) ao xs cap w0 (hx.keep bW);rw[hk]at this;exact this
 have C2:Hid (∀w0,Below w.heap.size w w0->Calls prog 148 #[.agg #[.int .i64 m,.slice ao xs.length cap]] w0 fun e w'=>∃bo bc,e=.returned (.agg #[.int .i64 m,.slice bo xs.length bc])/\Wd w' bo xs/\xs.length<=bc/\Below w0.heap.size w0 w'):=fun w0 h=>uh (m:Int) ao xs cap w0 (hx.keep h) (by omega)
 have C3:Hid (∀w0,Qq 149 #[.agg #[.int .i64 m,.slice ao xs.length cap]] w0 (.int .i64 ((m/512+1:Nat):Int))):=fun w0=>wj m hm ao xs.length cap w0
 have C4:Hid (∀(G:Nat) w0,G<=m/512->Below w.heap.size w w0->Calls prog 150 #[.agg #[.int .i64 m,.slice ao xs.length cap],.int .i64 (G:Int)] w0 fun e w'=>∃bo bc,e=.returned (.slice bo (aA xs G).length bc)/\Wd w' bo (aA xs G)/\Below w0.heap.size w0 w'):=fun G w0 hG h=>si m hm ao xs cap hl hcap G hG w0 (hx.keep h)
 obtain⟨M,hM⟩:∃M,Hid (M=m/512+1):=⟨_,rfl⟩;rw[<-hM.out]at C3;have hMb:M<=2049:=by have:=hM.out;omega
 have HL:Hid (xs.length=(m+63)/64):=hl;clear hl;go_enter func91,ntmps91;go_wp2_with fail;rw[<-hW];refine mr (C1.out _ rfl) fun w1 hb=>?_;have bw1:=bg bW hb
 replace B1:=B1.kept hb;replace B2:=B2.kept hb;clear hb C1 hW bW W;have r0:=B1.cell 0 rfl;have r1:=B1.cell 1 rfl;go_wp2_with fail;refine(C2.out _ bw1).mono ?_;rintro e w3 ⟨bo,bc,rfl,hW3,hbc,hb⟩
 have bw3:=bg bw1 hb;replace B1:=B1.kept hb;replace B2:=B2.kept hb;clear hb bw1 r0 r1 C2;have r0:=B1.cell 0 rfl;have r1:=B1.cell 1 rfl;have hlt0:=B2.lt
 have s0:=(B1.alloc (.cells #[.int .i64 m,.slice bo xs.length bc,.slice none 0 0,.slice none 0 0] 36)).cell 0 rfl
 have s1:=(B1.alloc (.cells #[.int .i64 m,.slice bo xs.length bc,.slice none 0 0,.slice none 0 0] 36)).cell 1 rfl
 obtain⟨V,hV⟩:∃V,V=w3.alloc (.cells #[.int .i64 m,.slice bo xs.length bc,.slice none 0 0,.slice none 0 0] 36):=⟨_,rfl⟩
 have P0:PB w3 V m xs.length bo bc (.slice none 0 0) (.slice none 0 0) 0 0 xs:=by
  rw[hV];exact⟨aa.new w3 _ _,below_alloc w3 _,World.ownsRow_nil _ _ _ _,World.ownsRow_nil _ _ _ _,Ap.apart_nil _⟩
 clear r0 r1;go_wp2_with fail;rw[<-hV];refine mr (C3.out _) fun w4 hb=>?_;replace P0:=P0.keep hb;clear hb hV s0 s1 C3 V;go_wp2
 go_loopw [5,19] (fun t s wr=>∃(G T:Nat) (so:Option Addr) (sc:Nat) (tO:Option Addr) (tc:Nat),G<=M/\s=.int .i64 G/\t=.int .i64 (cntB xs (512*G):Nat)/\Hid (T=min (8*G) xs.length)/\G<=sc/\T<=tc/\PB w3 wr m xs.length bo bc (.slice so G sc) (.slice tO T tc) G T xs) (fun _ s _=>M-(intOf s).toNat)
 case atStart=>exact⟨0,0,none,0,none,0,Nat.zero_le _,rfl,rfl,(by show 0=min (8*0) xs.length;omega),Nat.le_refl _,Nat.le_refl _,P0⟩
 case round=>
  obtain⟨G,T,so,sc,tO,tc,hG,rfl,rfl,HT,hsc,htc,HP⟩:=hrel;clear P0;have B1r:=B1.kept HP.hb;have q0:=B1r.cell 0 rfl;have q1:=B1r.cell 1 rfl;have bwr:=bw3.trans (HP.hb.mono bw3.size);by_cases hlt:G<M
  .have hlt2:(G:Int)<(M:Int):=by omega
   have hG2:G<=m/512:=by have:=hM.out;omega
   go_wp2_with fail;refine(C4.out G _ hG2 bwr).mono ?_;rintro e w5 ⟨wo,wc,rfl,hww,hb⟩;have HP5:=HP.keep hb;clear hb
   have C5:Hid (∀w0,w0=w5->Qq 151 #[.slice wo (aA xs G).length wc] w0 (.tuple #[.agg (iv (fw (aA xs G))).toArray,.int .i64 (cntB (aA xs G) (64*(aA xs G).length):Nat)])):=fun w0 h=>by subst h;exact wU wo (aA xs G) wc w0 hww (wJ xs hf G) (by rw[dA];omega)
   have hall:=xd xs G;have hc8:(aA xs G).length<=8:=by rw[dA];omega
   have hTT:T=8*G:=by have:=HT.out;have:=HL.out;omega
   have HT2:Hid (T+(aA xs G).length=min (8*(G+1)) xs.length):=by
    show T+(aA xs G).length=min (8*(G+1)) xs.length;rw[dA];have:=HT.out;omega
   have HSP:Hid (iv (dF (m:Int) xs T)++iv (ahT xs G)=iv (dF (m:Int) xs (T+(aA xs G).length))):=by
    show iv (dF (m:Int) xs T)++iv (ahT xs G)=iv (dF (m:Int) xs (T+(aA xs G).length));rw[Fi,hTT,yK m xs hk HL.out G (by have:=HL.out;omega)]
   have HSU:Hid (iv (dW (m:Int) xs G)++[.int .i64 (cntB xs (512*G):Nat)]=iv (dW (m:Int) xs (G+1))):=by
    show iv (dW (m:Int) xs G)++[.int .i64 (cntB xs (512*G):Nat)]=iv (dW (m:Int) xs (G+1));rw[Fh,yB,mX m xs hk G hG2]
   have HA:Hid (∀(j:Nat) (u:Value),(iv (ahT xs G))[j]?=some u->(iv (fw (aA xs G)))[j]?=some u):=by
    intro j u hj
    have hjl:j<(ahT xs G).length:=by
     have:=(List.getElem?_eq_some_iff.1 hj).1;rw[mj]at this;exact this
    rw[oe _ j hjl]at hj;rw[jN]at hjl;rw[oe _ j (by rw[kC];omega),<-hj];unfold ahT;rw[kQ _ _ _ hjl]
   have HlT:Hid ((iv (ahT xs G)).length=(aA xs G).length):=by show(iv (ahT xs G)).length=(aA xs G).length;rw[mj,jN]
   have HO1:Hid (∀u∈iv (ahT xs G),u.oneCell'=true):=fun u hu=>by obtain⟨y,_,rfl⟩:=List.mem_map.1 hu;rfl
   have lD:=kC (aA xs G);have bZ:=et xs (512*G);have bA:=et (aA xs G) (64*(aA xs G).length);have hTb:T<=16384:=by omega
   have hGb:G<=2048:=by omega
   clear hTT;go_wp2_with fail;refine mr (C5.out _ rfl) fun w6 hb=>?_;have HP6:=HP5.keep hb;clear hb C5;obtain⟨D,hD⟩:∃D,Hid (D=fw (aA xs G)):=⟨_,rfl⟩;rw[<-hD.out]at lD HA⊢
   obtain⟨A,hA⟩:∃A,A=cntB (aA xs G) (64*(aA xs G).length):=⟨_,rfl⟩;rw[<-hA]at hall bA⊢;obtain⟨Z,hZ⟩:∃Z,Z=cntB xs (512*G):=⟨_,rfl⟩;rw[<-hZ]at hall bZ HSU⊢
   obtain⟨c,hc⟩:∃c,c=(aA xs G).length:=⟨_,rfl⟩;rw[<-hc]at hc8 bA HT2 HSP HlT⊢;have HALL:Hid (cntB xs (512*(G+1))=Z+A):=hall;clear hall hA hZ hc HT hww HP5;go_wp2_with (refine oX ?_)
   intro w7 hc7 hb7 hs7;go_wp2_with (refine pw w6.heap.size _ _ rfl rfl hc7 (by simp) lD ?_);intro w8 hC8 ho8;have HP8:=HP6.keep (hb7.trans (ho8.below (Nat.le_refl _)))
   have hga:w6.heap.size<w8.heap.size:=by rw[ho8.size];exact hs7
   have hown1:∀k,(Value.slice so G sc).ownBlock=some k->k<w6.heap.size:=fun k hk=>(HP6.o1.lt k hk).2;have hgg:w3.heap.size<w6.heap.size:=HP6.bx.lt;clear hb7 hs7 hc7 ho8 HP6 w7;generalize w6.heap.size=ga at *
   have x2:=(HP8.bx.alloc (.cells #[.int .i64 (Z:Int)] 3)).cell 2 rfl;have x2b:=HP8.bx.cell 2 rfl;simp only[Act.put,ae,List.set]
   go_wp2_with (at_builtin;refine Ap.wpList_append_x (by rfl) _ _ _ (by rfl) (w3.heap.size+1) 3 i0 (.int .i64 0) 8 underlying24 hi hz0 hz1 hz2 rfl (.slice so G sc) G (iv (dW (m:Int) xs G)) (by rfl) (HP8.o1.alloc _) (some ⟨w8.heap.size,0,none⟩) 1 1 [.int .i64 (Z:Int)] (by rfl) rfl ?c1 ?c2 ?c3 ?c4 ?c5 ?_)
   case c1=>exact fun _=>⟨_,rfl,fun j u hj=>by
    match j,hj with
    | 0,hj=>simp at hj;subst hj;simp[Addr.add]⟩
   case c2=>intro u hu;simp at hu;subst hu;rfl
   case c3=>unfold maxLen;omega
   case c4=>omega
   case c5=>have:=HP8.bx.lt;simp;omega
   intro so2 sc2 w9 own9 hle9 hB9 hblk9 hkeep9 hsz9;rw[HSU.out]at own9;have HPa:=HP8.keep (below_alloc w8 (.cells #[.int .i64 (Z:Int)] 3))
   have esz:(w8.alloc (.cells #[.int .i64 (Z:Int)] 3)).heap.size=w8.heap.size+1:=by simp
   rw[<-esz]at hblk9 hkeep9;have HP9:=HPa.sup own9 hB9 hblk9 hkeep9;have hC9:aa w9 ga (iv D) 209:=(hkeep9 ga (by omega) (fun e=>by have:=hown1 ga e;omega)).trans (hC8.alloc (.cells #[.int .i64 (Z:Int)] 3))
   have hCa:=hC9.other (a:=⟨w3.heap.size,2,none⟩) (by show ga≠w3.heap.size;omega) (.slice so2 (G+1) sc2);have hga2:ga<(w9.setCell ⟨w3.heap.size,2,none⟩ (.slice so2 (G+1) sc2)).heap.size:=hCa.lt
   have xx2:=(HPa.bx.keep hB9 (Nat.lt_succ_self _)).cell 2 rfl;have ff2:=(HPa.bx.keep hB9 (Nat.lt_succ_self _)).frozen 2;clear esz own9 hB9 hblk9 hkeep9 hsz9 HPa hC9 HP8 hC8 x2 x2b hown1;go_wp2
   generalize (w9.setCell ⟨w3.heap.size,2,none⟩ (.slice so2 (G+1) sc2))=X at *
   refine aB [7] (fun w'=>aa w' w3.heap.size [.int .i64 m,.slice bo xs.length bc,.slice so2 (G+1) sc2,.slice tO T tc] 36) (by kernel_rfl) ?_
   have hPd:PB w3 X.drew m xs.length bo bc (.slice so2 (G+1) sc2) (.slice tO T tc) (G+1) T xs:=⟨HP9.bx,HP9.hb.drew,HP9.o1,HP9.o2,HP9.ap⟩;have hCd:aa X.drew ga (iv D) 209:=hCa;have hS:=hPd.bx
   have c1:(c:Int)<=8:=by omega
   clear HP9 hCa;generalize X.drew=Y at *;refine aK 0 hS ?_;refine aF 1 hS rfl (fun w0 h0=>by have c3:=h0.cell 3 rfl;go_simp;try with_reducible rfl) ?_;refine aK 2 hS ?_;refine aK 3 hS ?_
   refine aK 4 hS ?_;refine aO 5 ?_;intro K hK
   refine Ap.step_append_u (by rfl) _ _ _ (by rfl) (w3.heap.size+1) 3 i0 (.int .i64 0) 8 underlying24 hi hz0 hz1 hz2 rfl (.slice tO T tc) T (iv (dF (m:Int) xs T)) (by rfl) hPd.o2 (some ⟨ga,0,none⟩) c 8 (iv (ahT xs G)) (by rfl) HlT.out ?d1 HO1.out ?d3 ?d4 ?d5 ?d6
   case d1=>exact fun _=>⟨_,rfl,fun j u hj=>by
     have:=hCd.cell j (HA.out j u hj);rw[<-this];unfold Addr.add;split
     .subst_vars;rfl
     .simp⟩
   case d3=>unfold maxLen;omega
   case d4=>omega
   case d5=>have:=hPd.bx.lt;omega
   intro to2 tc2 wa own_a hle_a hB_a hblk_a hkeep_a hsz_a;rw[HSP.out]at own_a;have HPb:=hPd.sub own_a hB_a hblk_a hkeep_a;have hS2:=hPd.bx.keep hB_a (Nat.lt_succ_self _);refine hK.out _ _ (fun _=>hS2) ?_;clear hK K
   try simp only[Act.put,ak,aj,ai,ae,ah,ag]
   refine aK 6 hS2 ?_;refine aO 7 ?_;intro K hK;have z3:=hS2.cell 3 rfl;have fz3:=hS2.frozen 3;go_simp;refine hK.out _ _ (fun h=>absurd (by decide) h) ?_;clear hK K
   try simp only[Act.put,ak,aj,ai,ae,ah,ag]
   refine aq.done (by kernel_rfl) ?_ _;clear hS2 hPd hCd hS own_a hB_a hblk_a hkeep_a hsz_a z3 fz3;go_wp2
   refine⟨⟨G+1,T+c,so2,sc2,to2,tc2,by omega,by go_num,?_,HT2,by omega,by omega,HPb⟩,by simp only[intOf];omega⟩;rw[HALL.out];go_num
  .obtain rfl:G=M:=by omega
   have hlt2:¬(G:Int)<(G:Int):=by omega
   have eS:dW (m:Int) xs G=supL (m:Int) xs:=by unfold supL;rw[Int.toNat_natCast,hM.out]
   have eT:T=xs.length:=by have:=HT.out;have:=HL.out;have:=hM.out;omega
   subst eT;have lS:(supL (m:Int) xs).length=G:=by rw[mh,Int.toNat_natCast];exact hM.out.symm
   have B2r:=B2.kept HP.hb;have x0:=HP.bx.cell 0 rfl;have x1:=HP.bx.cell 1 rfl;have x2:=HP.bx.cell 2 rfl;have x3:=HP.bx.cell 3 rfl;have y0:=B2r.cell 0 rfl;have y1:=B2r.cell 1 rfl;have y2:=B2r.cell 2 rfl
   have y3:=B2r.cell 3 rfl;have f0:=B2r.frozen 0;have f1:=B2r.frozen 1;have f2:=B2r.frozen 2;have f3:=B2r.frozen 3
   have hC:=(((B2r.set 0 (.int .i64 m)).set 1 (.slice bo xs.length bc)).set 2 (.slice so G sc)).set 3 (.slice tO xs.length tc)
   have oW:=((((aw.refl (w.heap.size+1) wr).set 0 (.int .i64 m)).set 1 (.slice bo xs.length bc)).set 2 (.slice so G sc)).set 3 (.slice tO xs.length tc);have hWr:=hW3.keep HP.hb
   have hWd:=oW.wd hWr (hWr.apart B2r (by intro v hv n;simp at hv;rcases hv with rfl | rfl<;>simp));have n1:=uz (oW.owns HP.o1 (by omega));have n2:=uz (oW.owns HP.o2 (by omega));rw[eS]at n1
   have HB:=bwr.trans (oW.below (Nat.le_succ _));have k0:=hC.cell 0 rfl;have k1:=hC.cell 1 rfl;have k2:=hC.cell 2 rfl;have k3:=hC.cell 3 rfl
   have F1:Fr w.heap.size so:=jf HP.o1 (by have:=bwr.size;have:=HP.bx.lt;omega);have F2:Fr w.heap.size tO:=jf HP.o2 (by have:=bwr.size;have:=HP.bx.lt;omega)
   have HF:=And.intro hWd (And.intro n1 (And.intro n2 (And.intro HB (And.intro F1 F2))));replace HF:=Hid.mk' HF;have lT:=jL (m:Int) xs;clear F1 F2 hWd n1 n2 HB oW hWr HP hC B2r B1r HT q0 q1;go_wp2
   refine bodyPost_ret (v:=.tuple #[.agg #[.int .i64 m,.slice bo xs.length bc,.slice so G sc,.slice tO xs.length tc],.int .i64 0]) (by simp[results,Tryz.results91,go_sem,k0,k1,k2,k3]) rfl ?_
   refine⟨bo,bc,so,sc,tO,tc,by rw[lS,lT],⟨HF.out.1,hbc,HF.out.2.1,by rw[lS];exact hsc,HF.out.2.2.1,by rw[lT];exact htc,HF.out.2.2.2.2.1,HF.out.2.2.2.2.2⟩,HF.out.2.2.2.1⟩
theorem wN(ao:Option Addr)(l:List Int)(n cap:Nat)(hn:n=l.length)(bo:Option Addr)(m:List Int)(k dap:Nat)(hk:k=m.length)(w:World)(hx:Nd w ao l)(hy:Nd w bo m)(hl:l.length<=1048576):
  Qq 100 #[.slice ao n cap,.slice bo k dap] w (.bool (decide (l=m))):=by
 subst hn hk;by_cases h2:l.length=m.length
 .have h2':((l.length:Int) != (m.length:Int))=false:=by simp[h2]
  have H2:Hid (l.length=m.length):=h2;have h3:l.length<=m.length:=by omega
  clear h2;go_enter func100,ntmps100;go_wp2;go_loopw [13] (fun i wr=>∃k:Nat,k<=l.length/\i=.int .i64 k/\Hid (∀j,j<k->gi l j=gi m j)/\Below w.heap.size w wr) (fun i _=>l.length-(intOf i).toNat)
  case atStart=>exact⟨0,by omega,rfl,fun j hj=>absurd hj (by omega),Below.refl _ _⟩
  case round=>
   obtain⟨k,hk,rfl,H,hw⟩:=hrel;by_cases hlt:k<l.length
   .obtain⟨b,off,rfl,hb,hc⟩:=hx (by omega);obtain⟨d,off2,rfl,hd,hc2⟩:=hy (by omega);have e1:=(hw.cell (p:=⟨b,off+k,none⟩) hb).trans (hc k hlt)
    have e2:=(hw.cell (p:=⟨d,off2+k,none⟩) hd).trans (hc2 k (by omega));have hlt2:k<m.length:=by omega
    have hlt3:(k:Int)<(l.length:Int):=by omega
    have hlt4:(k:Int)<(m.length:Int):=by omega
    clear hc hc2;by_cases hv:gi l k=gi m k
    .have hne:(gi l k != gi m k)=false:=by simp[hv]
     go_wp2;go_quiet (fail);go_wp2;refine⟨⟨k+1,by omega,by go_num,?_,below_drewN hw _⟩,by simp only[intOf];omega⟩;intro j hj;by_cases e:j=k
     .subst e;exact hv
     .exact H.out j (by omega)
    .have hne:(gi l k != gi m k)=true:=by simp[hv]
     have R:Hid (decide (l=m)=false):=by
      show decide (l=m)=false;simp only[decide_eq_false_iff_not];intro e;subst e;exact hv rfl
     go_wp2;go_quiet (fail);go_wp2;go_ret;rw[R.out];exact⟨rfl,below_drewN hw _⟩
   .have R:Hid (decide (l=m)=true):=by
     show decide (l=m)=true;simp only[decide_eq_true_eq];exact jt H2.out (fun i hi=>H.out i (by omega))
    go_wp2;go_ret;rw[R.out];exact⟨rfl,hw⟩
 .have h2':((l.length:Int) != (m.length:Int))=true:=by simp;omega
  have R:Hid (decide (l=m)=false):=by
   show decide (l=m)=false;simp only[decide_eq_false_iff_not];intro e;subst e;exact h2 rfl
  go_enter func100,ntmps100;go_wp2;go_ret;rw[R.out];exact⟨rfl,Below.refl _ _⟩
open Go.RowKit Num Bit
def lJ(ao:Option Addr)(cap lo:Nat):Option Addr:=
 match ao with
 | none=>none
 | some a=>if cap=lo then some a else some (a.add lo)
theorem Do{w:World}{ao:Option Addr}{l:List Int}{cap:Nat}(h:Nd w ao l)(lo c:Nat)(h1:lo+c<=l.length)(hc:l.length<=cap):Nd w (lJ ao cap lo) ((l.drop lo).take c):=by
 intro h0;have hlen:((l.drop lo).take c).length=c:=by simp;omega
 rw[hlen]at h0;obtain⟨b,off,rfl,hb,hcc⟩:=h (by omega)
 have e:lJ (some ⟨b,off,none⟩) cap lo=some ⟨b,off+lo,none⟩:=by
  unfold lJ;simp only;rw[if_neg (by omega)];congr 1;unfold Addr.add;split
  .subst_vars;rfl
  .rfl
 refine⟨b,off+lo,e,hb,fun i hi=>?_⟩;rw[hlen]at hi;rw[kQ _ _ _ hi,qO,Nat.add_assoc];exact hcc _ (by omega)
theorem Dp{w:World}{g:Nat}{xs:List Nat}{G:Nat}(h:aa w g (iv (fw (aA xs G))) 209):Nd w (some ⟨g,0,none⟩) (ahT xs G):=by
 intro h0;refine⟨g,0,rfl,h.lt,fun i hi=>?_⟩;rw[jN]at hi;have l8:(aA xs G).length<=8:=by rw[dA];omega
 rw[Nat.zero_add,xq h i (by rw[kC];omega)];unfold ahT;rw[kQ _ _ _ hi]
theorem Ch(N:Int)(xs:List Nat)(su sb:List Int)(h:ar N xs=false):pchk N xs su sb=false:=by unfold pchk;rw[h];rfl
theorem Cg(m:Nat)(xs:List Nat)(su sb:List Int)(h:su.length≠m/512+1):pchk (m:Int) xs su sb=false:=by
 cases e:pchk (m:Int) xs su sb with
 | false=>rfl
 | true=>
  obtain⟨_,a,_⟩:=lU _ _ _ _ e;rw[a,mh,Int.toNat_natCast]at h;exact absurd rfl h
theorem Cf(N:Int)(xs:List Nat)(su sb:List Int)(h:sb.length≠xs.length):pchk N xs su sb=false:=by
 cases e:pchk N xs su sb with
 | false=>rfl
 | true=>
  obtain⟨_,_,a⟩:=lU _ _ _ _ e;rw[a,jL]at h;exact absurd rfl h
theorem Ce(m:Nat)(xs:List Nat)(su sb:List Int)(hk:ar (m:Int) xs=true)(G:Nat)(hG:G<=m/512)(h:gi su G≠(cntB xs (512*G):Int)):pchk (m:Int) xs su sb=false:=by
 cases e:pchk (m:Int) xs su sb with
 | false=>rfl
 | true=>
  obtain⟨_,a,_⟩:=lU _ _ _ _ e;refine absurd ?_ h;rw[a];unfold supL;rw[oA _ _ _ _ (by rw[Int.toNat_natCast];omega),mX m xs hk G hG]
theorem yJ(m:Nat)(xs:List Nat)(hk:ar (m:Int) xs=true)(hl:xs.length=(m+63)/64)(G:Nat):((subL (m:Int) xs).drop (8*G)).take (aA xs G).length=ahT xs G:=by
 have hg:=dA xs G;refine jt (by rw[jN,List.length_take,List.length_drop,jL];omega) fun i hi=>?_;rw[List.length_take,List.length_drop,jL]at hi
 rw[kQ _ _ _ (by omega),qO,qP xs G i (by omega),<-pu m xs hk hl G i (by omega)];unfold subL;rw[kR _ _ _ _ (by omega)]
theorem Cd(m:Nat)(xs:List Nat)(su sb:List Int)(hk:ar (m:Int) xs=true)(hl:xs.length=(m+63)/64)(G:Nat)(h:(sb.drop (8*G)).take (aA xs G).length≠ahT xs G):pchk (m:Int) xs su sb=false:=by
 cases e:pchk (m:Int) xs su sb with
 | false=>rfl
 | true=>
  obtain⟨_,_,a⟩:=lU _ _ _ _ e;refine absurd ?_ h;rw[a];exact yJ m xs hk hl G
def fB(m:Nat)(xs:List Nat)(su sb:List Int)(G:Nat):Prop:=(∀j,j<G->gi su j=fG (m:Int) xs j)/\∀j,j<min (8*G) xs.length->gi sb j=fH (m:Int) xs j
theorem fB.zero(m:Nat)(xs:List Nat)(su sb:List Int):fB m xs su sb 0:=⟨fun j h=>absurd h (by omega),fun j h=>absurd h (by omega)⟩
theorem fB.step(m:Nat)(xs:List Nat)(su sb:List Int)(hk:ar (m:Int) xs=true)(hl:xs.length=(m+63)/64)(G:Nat)(hG:G<=m/512)(h:fB m xs su sb G)(h1:gi su G=(cntB xs (512*G):Int))(h2:(sb.drop (8*G)).take (aA xs G).length=ahT xs G):fB m xs su sb (G+1):=by
 refine⟨fun j hj=>?_,fun j hj=>?_⟩
 .by_cases c:j=G
  .subst c;rw[h1,mX m xs hk j hG]
  .exact h.1 j (by omega)
 .by_cases c:j<8*G
  .exact h.2 j (by omega)
  .have hlg:=dA xs G;have a:=qP xs G (j-8*G) (by omega);rw[<-h2,kQ _ _ _ (by omega),qO,<-pu m xs hk hl G (j-8*G) (by omega),show 8*G+(j-8*G)=j by omega]at a;exact a
theorem fB.last(m:Nat)(xs:List Nat)(su sb:List Int)(hk:ar (m:Int) xs=true)(hl:xs.length=(m+63)/64)(hs:su.length=m/512+1)(ht:sb.length=xs.length)(h:fB m xs su sb (m/512+1)):pchk (m:Int) xs su sb=true:=by
 unfold pchk;rw[hk,Bool.true_and,Bool.and_eq_true,decide_eq_true_eq,decide_eq_true_eq];refine⟨jt (by rw[hs,mh,Int.toNat_natCast]) fun j hj=>?_,jt (by rw[ht,jL]) fun j hj=>?_⟩
 .unfold supL;rw[oA _ _ _ _ (by rw[Int.toNat_natCast];omega)];exact h.1 j (by omega)
 .unfold subL;rw[kR _ _ _ _ (by omega)];exact h.2 j (by omega)
theorem mH(N:Int)(ao:Option Addr)(xs:List Nat)(cap:Nat)(so:Option Addr)(su:List Int)(sc:Nat)(tO:Option Addr)(sb:List Int)(tc:Nat)(w:World)(h:eQ w N ao xs cap so su sc tO sb tc):
  Qq 172 #[.agg #[.int .i64 N,.slice ao xs.length cap,.slice so su.length sc,.slice tO sb.length tc]] w (.bool (pchk N xs su sb)):=by
 obtain⟨W,hW⟩:∃W,W=w.alloc (.cells #[.int .i64 N,.slice ao xs.length cap,.slice so su.length sc,.slice tO sb.length tc] 36):=⟨_,rfl⟩;have bW:=aM hW;have B1:=aU hW;cases hk:ar N xs with
 | false=>
  have R:Hid (pchk N xs su sb=false):=Ch N xs su sb hk;rw[R.out]
  have C1:Hid (Qz w 147 #[.agg #[.int .i64 N,.slice ao xs.length cap]] (.bool false)):=fun w0 hb=>by
   have:=bi N ao xs cap w0 (h.x.keep hb);rw[hk]at this;exact this
  clear h;go_enter func172,ntmps172;go_wp2;rw[<-hW];clear hW
  refine aB [] (fun w'=>aa w' w.heap.size [.int .i64 N,.slice ao xs.length cap,.slice so su.length sc,.slice tO sb.length tc] 36) (by kernel_rfl) ?_
  have hS:aa W.drew w.heap.size [.int .i64 N,.slice ao xs.length cap,.slice so su.length sc,.slice tO sb.length tc] 36:=B1;have bV:Below w.heap.size w W.drew:=bW.drew;generalize W.drew=V at *;clear B1 bW
  refine aK 0 hS ?_;refine aF 1 hS rfl (fun w0 h0=>by have c0:=h0.cell 0 rfl;have c1:=h0.cell 1 rfl;go_simp;try with_reducible rfl) ?_;refine aO 2 ?_;intro K hK;go_simp;refine mr (C1.out _ bV) fun w2 hb=>?_;have hS2:=hS.kept hb;have bw2:=bg bV hb;refine hK.out _ _ (fun _=>hS2) ?_;clear hK K;try simp only[Act.put,ak,aj,ai,ae,ah,ag]
  refine aK 3 hS2 ?_;refine aK 4 hS2 ?_;refine aS 5 hS2 ?_;refine aS 6 hS2 ?_;refine aS 7 hS2 ?_;refine aS 8 hS2 ?_;refine aS 9 hS2 ?_;refine aS 10 hS2 ?_;refine aS 11 hS2 ?_
  refine aK 12 hS2 ?_;refine aK 13 hS2 ?_;refine aS 14 hS2 ?_;refine aS 15 hS2 ?_;refine aS 16 hS2 ?_;refine aS 17 hS2 ?_;refine aS 18 hS2 ?_;refine aS 19 hS2 ?_;refine aS 20 hS2 ?_
  refine aS 21 hS2 ?_;refine aK 22 hS2 ?_;refine aq.done (by kernel_rfl) ?_ _;clear hS2 hS hb bV C1 V;go_wp2;go_ret;exact⟨rfl,bw2⟩
 | true=>
  obtain⟨m,rfl,hm,hl⟩:=ru N xs hk
  have C1:Hid (Qz w 147 #[.agg #[.int .i64 m,.slice ao xs.length cap]] (.bool true)):=fun w0 hb=>by
   have:=bi (m:Int) ao xs cap w0 (h.x.keep hb);rw[hk]at this;exact this
  have C3:Hid (∀w0,Qq 149 #[.agg #[.int .i64 m,.slice ao xs.length cap]] w0 (.int .i64 ((m/512+1:Nat):Int))):=fun w0=>wj m hm ao xs.length cap w0
  obtain⟨M,hM⟩:∃M,Hid (M=m/512+1):=⟨_,rfl⟩;rw[<-hM.out]at C3;have hMb:M<=2049:=by have:=hM.out;omega
  have HL:Hid (xs.length=(m+63)/64):=hl;have hlx:xs.length<=16384:=by omega
  clear hl;by_cases h1:su.length=M
  .have h1':((su.length:Int) != (M:Int))=false:=by simp[h1]
   by_cases h2:sb.length=xs.length
   .have h2':((sb.length:Int) != (xs.length:Int))=false:=by simp[h2]
    have H2:Hid (sb.length=xs.length):=h2;have H1:Hid (su.length=M):=h1
    have C4:Hid (∀(G:Nat) w0,G<=m/512->Below w.heap.size w w0->Calls prog 150 #[.agg #[.int .i64 m,.slice ao xs.length cap],.int .i64 (G:Int)] w0 fun e w'=>∃bo bc,e=.returned (.slice bo (aA xs G).length bc)/\Wd w' bo (aA xs G)/\Below w0.heap.size w0 w'):=fun G w0 hG hb=>si m hm ao xs cap HL.out h.c G hG w0 (h.x.keep hb)
    clear h1 h2;go_enter func172,ntmps172;go_wp2;rw[<-hW];clear hW
    refine aB [] (fun w'=>aa w' w.heap.size [.int .i64 m,.slice ao xs.length cap,.slice so su.length sc,.slice tO sb.length tc] 36) (by kernel_rfl) ?_
    have hS:aa W.drew w.heap.size [.int .i64 m,.slice ao xs.length cap,.slice so su.length sc,.slice tO sb.length tc] 36:=B1;have bV:Below w.heap.size w W.drew:=bW.drew;generalize W.drew=V at *;clear B1 bW
    refine aK 0 hS ?_;refine aF 1 hS rfl (fun w0 h0=>by have c0:=h0.cell 0 rfl;have c1:=h0.cell 1 rfl;go_simp;try with_reducible rfl) ?_;refine aO 2 ?_;intro K hK;go_simp;refine mr (C1.out _ bV) fun w2 hb=>?_;have hS2:=hS.kept hb;have bw2:=bg bV hb;refine hK.out _ _ (fun _=>hS2) ?_;clear hK K;try simp only[Act.put,ak,aj,ai,ae,ah,ag]
    refine aK 3 hS2 ?_;refine aK 4 hS2 ?_;refine aK 5 hS2 ?_;refine aF 6 hS2 rfl (fun w0 h0=>by have c0:=h0.cell 2 rfl;go_simp;try with_reducible rfl) ?_;refine aK 7 hS2 ?_;refine aK 8 hS2 ?_
    refine aF 9 hS2 rfl (fun w0 h0=>by have c0:=h0.cell 0 rfl;have c1:=h0.cell 1 rfl;go_simp;try with_reducible rfl) ?_;refine aO 10 ?_;intro K hK;go_simp;refine mr (C3.out _) fun w3 hb3=>?_
    have hS3:=hS2.kept hb3;have bw3:=bg bw2 hb3;refine hK.out _ _ (fun _=>hS3) ?_;clear hK K;try simp only[Act.put,ak,aj,ai,ae,ah,ag]
    refine aK 11 hS3 ?_;refine aK 12 hS3 ?_;refine aK 13 hS3 ?_;refine aK 14 hS3 ?_;refine aF 15 hS3 rfl (fun w0 h0=>by have c0:=h0.cell 3 rfl;go_simp;try with_reducible rfl) ?_
    refine aK 16 hS3 ?_;refine aK 17 hS3 ?_;refine aK 18 hS3 ?_;refine aF 19 hS3 rfl (fun w0 h0=>by have c0:=h0.cell 1 rfl;go_simp;try with_reducible rfl) ?_;refine aK 20 hS3 ?_
    refine aK 21 hS3 ?_;refine aK 22 hS3 ?_;refine aq.done (by kernel_rfl) ?_ _;clear hS2 hS hb hb3 bV bw2 C1 w2 V;have q0:=hS3.cell 0 rfl;have q1:=hS3.cell 1 rfl;go_wp2_with fail;refine mr (C3.out _) fun w4 hb=>?_;have hS4:=hS3.kept hb;have bw4:=bg bw3 hb;clear hb q0 q1 C3 hS3 bw3;go_wp2
    go_loopw [3,34] (fun t s wr=>∃G:Nat,G<=M/\s=.int .i64 G/\t=.int .i64 (cntB xs (512*G):Nat)/\Hid (fB m xs su sb G)/\aa wr w.heap.size [.int .i64 m,.slice ao xs.length cap,.slice so su.length sc,.slice tO sb.length tc] 36/\Below w.heap.size w wr) (fun _ s _=>M-(intOf s).toNat)
    case atStart=>exact⟨0,Nat.zero_le _,rfl,rfl,fB.zero m xs su sb,hS4,bw4⟩
    case round=>
     obtain⟨G,hG,rfl,rfl,HR,hc,hbr⟩:=hrel;clear hS4 bw4;have q0:=hc.cell 0 rfl;have q1:=hc.cell 1 rfl;by_cases hlt:G<M
     .have hlt2:(G:Int)<(M:Int):=by omega
      have hG2:G<=m/512:=by have:=hM.out;omega
      go_wp2_with fail;refine(C4.out G _ hG2 hbr).mono ?_;rintro e w5 ⟨wo,wc,rfl,hww,hb⟩;have hc5:=hc.kept hb;have bw5:=bg hbr hb;clear hb hc hbr q0 q1
      have C5:Hid (∀w0,w0=w5->Qq 151 #[.slice wo (aA xs G).length wc] w0 (.tuple #[.agg (iv (fw (aA xs G))).toArray,.int .i64 (cntB (aA xs G) (64*(aA xs G).length):Nat)])):=fun w0 h0=>by subst h0;exact wU wo (aA xs G) wc w0 hww (wJ xs h.f G) (by rw[dA];omega)
      have hall:=xd xs G;have hc8:(aA xs G).length<=8:=by rw[dA];omega
      have hend:8*G+(aA xs G).length<=sb.length:=by rw[dA];have:=H2.out;have:=HL.out;omega
      have hlS:G<su.length:=by have:=H1.out;omega
      have lD:=kC (aA xs G);have bZ:=et xs (512*G);have bA:=et (aA xs G) (64*(aA xs G).length);have hGb:G<=2048:=by omega
      have B5:=Cd m xs su sb hk HL.out G;have B4:=Ce m xs su sb hk G hG2
      have ST:Hid (gi su G=(cntB xs (512*G):Int)->(sb.drop (8*G)).take (aA xs G).length=ahT xs G->fB m xs su sb (G+1)):=fun a b=>fB.step m xs su sb hk HL.out G hG2 HR.out a b
      have EQ:Hid (∀w0 ga,Below w.heap.size w w0->aa w0 ga (iv (fw (aA xs G))) 209->Qq 100 #[.slice (lJ tO tc (8*G)) (aA xs G).length (tc-8*G),.slice (some ⟨ga,0,none⟩) (aA xs G).length 8] w0 (.bool (decide ((sb.drop (8*G)).take (aA xs G).length=ahT xs G)))):=by
       intro w0 ga hb hca;refine wN _ ((sb.drop (8*G)).take (aA xs G).length) _ _ (by simp;omega) _ (ahT xs G) _ _ (by rw[jN]) w0 (Do (h.t.keep hb) (8*G) _ hend h.tc) (Dp hca) (by simp;omega)
      obtain⟨b1,o1,rfl,hb1,hcc1⟩:=h.s (by omega);have hcG:=hcc1 G hlS;have l4:sb.length<=tc:=h.tc;clear hcc1 C4;go_wp2_with fail;refine mr (C5.out _ rfl) fun w6 hb=>?_;have hc6:=hc5.kept hb
      have bw6:=bg bw5 hb;clear hb C5 hc5 bw5 hww;obtain⟨D,hD⟩:∃D,Hid (D=fw (aA xs G)):=⟨_,rfl⟩;rw[<-hD.out]at lD EQ⊢
      obtain⟨A,hA⟩:∃A,A=cntB (aA xs G) (64*(aA xs G).length):=⟨_,rfl⟩;rw[<-hA]at hall bA⊢;obtain⟨Z,hZ⟩:∃Z,Z=cntB xs (512*G):=⟨_,rfl⟩;rw[<-hZ]at hall bZ B4 ST⊢
      obtain⟨c,hcl⟩:∃c,c=(aA xs G).length:=⟨_,rfl⟩;rw[<-hcl]at hc8 bA hend B5 EQ ST⊢;have HALL:Hid (cntB xs (512*(G+1))=Z+A):=hall;clear hall hA hZ hcl HR;go_wp2_with (refine oX ?_)
      intro w7 hc7 hb7 hs7;go_wp2_with (refine pw w6.heap.size _ _ rfl rfl hc7 (by simp) lD ?_);intro w8 hC8 ho8;have bb8:=hb7.trans (ho8.below (Nat.le_refl _));have hc8b:=hc6.kept bb8
      have bw8:=bg bw6 bb8;clear hb7 hs7 hc7 ho8 bb8 hc6 bw6 w7;generalize w6.heap.size=ga at *;simp only[Act.put,ae,List.set];go_wp2
      refine aB [] (fun w'=>aa w' w.heap.size [.int .i64 m,.slice ao xs.length cap,.slice (some ⟨b1,o1,none⟩) su.length sc,.slice tO sb.length tc] 36/\w'.cell? ⟨b1,o1+G,none⟩=some (.int .i64 (gi su G))) (by kernel_rfl) ?_
      have hS:aa w8.drew w.heap.size [.int .i64 m,.slice ao xs.length cap,.slice (some ⟨b1,o1,none⟩) su.length sc,.slice tO sb.length tc] 36/\w8.drew.cell? ⟨b1,o1+G,none⟩=some (.int .i64 (gi su G)):=⟨hc8b,(bw8.drew.cell (p:=⟨b1,o1+G,none⟩) hb1).trans hcG⟩
      have bV:Below w.heap.size w w8.drew:=bw8.drew;have hCd:aa w8.drew ga (iv D) 209:=hC8;generalize w8.drew=V at *;have hlS2:(G:Int)<(su.length:Int):=by omega
      have m1:IntKind.i64.wrap ((G:Int)*8)=((8*G:Nat):Int):=by rw[IntKind.wrap_i64];omega
      have m2:IntKind.i64.wrap (((8*G:Nat):Int)+(c:Int))=((8*G+c:Nat):Int):=by rw[IntKind.wrap_i64];omega
      have m2b:IntKind.i64.wrap (8*(G:Int)+(c:Int))=((8*G+c:Nat):Int):=by rw[IntKind.wrap_i64];omega
      have l5:8*G+c<=tc:=by omega
      have l5b:((8*G+c:Nat):Int)<=(tc:Int):=by omega
      have c1:(c:Int)<=8:=by omega
      clear hC8 hc8b bw8 hcG;by_cases v1:gi su G=(Z:Int)
      .have v1b:(gi su G != (Z:Int))=false:=by simp[v1]
       refine aK 0 hS ?_;refine aF 1 hS rfl (fun w0 h0=>by have c2:=h0.1.cell 2 rfl;go_simp;try with_reducible rfl) ?_;refine aK 2 hS ?_;refine aK 3 hS ?_
       refine aF 4 hS rfl (fun w0 h0=>by have c2:=h0.2;go_simp;try with_reducible rfl) ?_;refine aK 5 hS ?_;refine aK 6 hS ?_;refine aK 7 hS ?_;refine aK 8 hS ?_
       refine aF 9 hS rfl (fun w0 h0=>by have c2:=h0.1.cell 3 rfl;go_simp;try with_reducible rfl) ?_;refine aK 10 hS ?_;refine aK 11 hS ?_;refine aK 12 hS ?_;refine aK 13 hS ?_
       refine aK 14 hS ?_;refine aK 15 hS ?_;refine aK 16 hS ?_
       refine aq.take 17 (v:=.slice (lJ tO tc (8*G)) c (tc-8*G)) rfl (by kernel_rfl) (by kernel_rfl) (by kernel_rfl) (by kernel_rfl) (fun _ _ _ h=>h) hS ?hy170 (by rfl) ?rest170
       case hy170=>
        intro w0 h0;have z1:(8*(G:Int)).toNat=8*G:=by omega
        have z2:(8*(G:Int)+(c:Int)).toNat=8*G+c:=by omega
        cases tO with
        | none=>
         go_simp;rw[if_pos ⟨by omega,by omega⟩,if_pos ⟨by omega,by omega⟩];rfl
        | some a0=>
         go_simp;rw[if_pos ⟨by omega,by omega⟩,if_pos ⟨by omega,by omega⟩];rfl
       simp only[Act.put,ak,aj,ai,ae,ah,ag];refine aK 18 hS ?_;refine aK 19 hS ?_;refine aK 20 hS ?_;refine aO 21 ?_;intro K hK;go_simp;refine mr (EQ.out _ ga bV hCd) fun w2 hb=>?_;have hS2:=And.intro (hS.1.kept hb) ((hb.cell (p:=⟨b1,o1+G,none⟩) (Nat.lt_of_lt_of_le hb1 bV.size)).trans hS.2);have bw2:=bg bV hb;refine hK.out _ _ (fun _=>hS2) ?_
       clear hK K;try simp only[Act.put,ak,aj,ai,ae,ah,ag]
       by_cases v2:(sb.drop (8*G)).take c=ahT xs G
       .have RR:=ST.out v1 v2;rw[decide_eq_true v2];refine aK 22 hS2 ?_;refine aK 23 hS2 ?_;refine aq.done (by kernel_rfl) ?_ _;have HR2:Hid (fB m xs su sb (G+1)):=RR
        clear RR ST EQ B5 B4 hCd hS bV hb;go_wp2;refine⟨⟨G+1,by omega,by go_num,?_,HR2,hS2.1,bw2⟩,by simp only[intOf];omega⟩;rw[HALL.out];go_num
       .have RF:Hid (pchk (m:Int) xs su sb=false):=B5 v2;rw[decide_eq_false v2];refine aK 22 hS2 ?_;refine aK 23 hS2 ?_;refine aq.done (by kernel_rfl) ?_ _;clear ST EQ B5 B4 hCd hS bV hb;go_wp2;go_ret
        rw[RF.out];exact⟨rfl,bw2⟩
      .have v1b:(gi su G != (Z:Int))=true:=by simp[v1]
       have RF:Hid (pchk (m:Int) xs su sb=false):=B4 v1;refine aK 0 hS ?_;refine aF 1 hS rfl (fun w0 h0=>by have c2:=h0.1.cell 2 rfl;go_simp;try with_reducible rfl) ?_;refine aK 2 hS ?_
       refine aK 3 hS ?_;refine aF 4 hS rfl (fun w0 h0=>by have c2:=h0.2;go_simp;try with_reducible rfl) ?_;refine aK 5 hS ?_;refine aK 6 hS ?_;refine aK 7 hS ?_;refine aS 8 hS ?_
       refine aS 9 hS ?_;refine aS 10 hS ?_;refine aS 11 hS ?_;refine aS 12 hS ?_;refine aS 13 hS ?_;refine aS 14 hS ?_;refine aS 15 hS ?_;refine aS 16 hS ?_;refine aS 17 hS ?_
       refine aS 18 hS ?_;refine aS 19 hS ?_;refine aS 20 hS ?_;refine aS 21 hS ?_;refine aS 22 hS ?_;refine aK 23 hS ?_;refine aq.done (by kernel_rfl) ?_ _;clear ST EQ B5 B4 hCd hS;go_wp2
       go_ret;rw[RF.out];exact⟨rfl,bV⟩
     .obtain rfl:G=M:=by omega
      have hlt2:¬(G:Int)<(G:Int):=by omega
      have RT:Hid (pchk (m:Int) xs su sb=true):=by
       have a:=HR.out;have b:=H1.out;rw[hM.out]at a b;exact fB.last m xs su sb hk HL.out b H2.out a
      clear q0 q1;go_wp2;go_ret;rw[RT.out];exact⟨rfl,hbr⟩
   .have h2':((sb.length:Int) != (xs.length:Int))=true:=by simp;omega
    have R:Hid (pchk (m:Int) xs su sb=false):=Cf _ xs su sb h2;rw[R.out];clear h1 h2 h;go_enter func172,ntmps172;go_wp2;rw[<-hW];clear hW
    refine aB [] (fun w'=>aa w' w.heap.size [.int .i64 m,.slice ao xs.length cap,.slice so su.length sc,.slice tO sb.length tc] 36) (by kernel_rfl) ?_
    have hS:aa W.drew w.heap.size [.int .i64 m,.slice ao xs.length cap,.slice so su.length sc,.slice tO sb.length tc] 36:=B1;have bV:Below w.heap.size w W.drew:=bW.drew;generalize W.drew=V at *;clear B1 bW
    refine aK 0 hS ?_;refine aF 1 hS rfl (fun w0 h0=>by have c0:=h0.cell 0 rfl;have c1:=h0.cell 1 rfl;go_simp;try with_reducible rfl) ?_;refine aO 2 ?_;intro K hK;go_simp;refine mr (C1.out _ bV) fun w2 hb=>?_;have hS2:=hS.kept hb;have bw2:=bg bV hb;refine hK.out _ _ (fun _=>hS2) ?_;clear hK K;try simp only[Act.put,ak,aj,ai,ae,ah,ag]
    refine aK 3 hS2 ?_;refine aK 4 hS2 ?_;refine aK 5 hS2 ?_;refine aF 6 hS2 rfl (fun w0 h0=>by have c0:=h0.cell 2 rfl;go_simp;try with_reducible rfl) ?_;refine aK 7 hS2 ?_;refine aK 8 hS2 ?_
    refine aF 9 hS2 rfl (fun w0 h0=>by have c0:=h0.cell 0 rfl;have c1:=h0.cell 1 rfl;go_simp;try with_reducible rfl) ?_;refine aO 10 ?_;intro K hK;go_simp;refine mr (C3.out _) fun w3 hb3=>?_
    have hS3:=hS2.kept hb3;have bw3:=bg bw2 hb3;refine hK.out _ _ (fun _=>hS3) ?_;clear hK K;try simp only[Act.put,ak,aj,ai,ae,ah,ag]
    refine aK 11 hS3 ?_;refine aK 12 hS3 ?_;refine aK 13 hS3 ?_;refine aK 14 hS3 ?_;refine aF 15 hS3 rfl (fun w0 h0=>by have c0:=h0.cell 3 rfl;go_simp;try with_reducible rfl) ?_
    refine aK 16 hS3 ?_;refine aK 17 hS3 ?_;refine aK 18 hS3 ?_;refine aF 19 hS3 rfl (fun w0 h0=>by have c0:=h0.cell 1 rfl;go_simp;try with_reducible rfl) ?_;refine aK 20 hS3 ?_
    refine aK 21 hS3 ?_;refine aK 22 hS3 ?_;refine aq.done (by kernel_rfl) ?_ _;clear hS2 hS hb hb3 bV bw2 C1 C3 hS3;go_wp2;go_ret;exact⟨rfl,bw3⟩
  .have h1':((su.length:Int) != (M:Int))=true:=by simp;omega
   have R:Hid (pchk (m:Int) xs su sb=false):=Cg m xs su sb (by rw[<-hM.out];exact h1);rw[R.out];clear h1 h;go_enter func172,ntmps172;go_wp2;rw[<-hW];clear hW
   refine aB [] (fun w'=>aa w' w.heap.size [.int .i64 m,.slice ao xs.length cap,.slice so su.length sc,.slice tO sb.length tc] 36) (by kernel_rfl) ?_
   have hS:aa W.drew w.heap.size [.int .i64 m,.slice ao xs.length cap,.slice so su.length sc,.slice tO sb.length tc] 36:=B1;have bV:Below w.heap.size w W.drew:=bW.drew;generalize W.drew=V at *;clear B1 bW
   refine aK 0 hS ?_;refine aF 1 hS rfl (fun w0 h0=>by have c0:=h0.cell 0 rfl;have c1:=h0.cell 1 rfl;go_simp;try with_reducible rfl) ?_;refine aO 2 ?_;intro K hK;go_simp;refine mr (C1.out _ bV) fun w2 hb=>?_;have hS2:=hS.kept hb;have bw2:=bg bV hb;refine hK.out _ _ (fun _=>hS2) ?_;clear hK K;try simp only[Act.put,ak,aj,ai,ae,ah,ag]
   refine aK 3 hS2 ?_;refine aK 4 hS2 ?_;refine aK 5 hS2 ?_;refine aF 6 hS2 rfl (fun w0 h0=>by have c0:=h0.cell 2 rfl;go_simp;try with_reducible rfl) ?_;refine aK 7 hS2 ?_;refine aK 8 hS2 ?_
   refine aF 9 hS2 rfl (fun w0 h0=>by have c0:=h0.cell 0 rfl;have c1:=h0.cell 1 rfl;go_simp;try with_reducible rfl) ?_;refine aO 10 ?_;intro K hK;go_simp;refine mr (C3.out _) fun w3 hb3=>?_
   have hS3:=hS2.kept hb3;have bw3:=bg bw2 hb3;refine hK.out _ _ (fun _=>hS3) ?_;clear hK K;try simp only[Act.put,ak,aj,ai,ae,ah,ag]
   refine aK 11 hS3 ?_;refine aK 12 hS3 ?_;refine aK 13 hS3 ?_;refine aS 14 hS3 ?_;refine aS 15 hS3 ?_;refine aS 16 hS3 ?_;refine aS 17 hS3 ?_;refine aS 18 hS3 ?_;refine aS 19 hS3 ?_
   refine aS 20 hS3 ?_;refine aS 21 hS3 ?_;refine aK 22 hS3 ?_;refine aq.done (by kernel_rfl) ?_ _;clear hS2 hS hb hb3 bV bw2 C1 C3 hS3;go_wp2;go_ret;exact⟨rfl,bw3⟩
theorem oG(m:Nat)(ao:Option Addr)(xs:List Nat)(cap:Nat)(so:Option Addr)(su:List Int)(sc:Nat)(tO:Option Addr)(sb:List Int)(tc:Nat)(bit:Bool)(i:Nat)(w:World)(h:eQ w (m:Int) ao xs cap so su sc tO sb tc)(hp:pchk (m:Int) xs su sb=true)(hi:i<=m):
  Qq 178 #[.agg #[.int .i64 m,.slice ao xs.length cap,.slice so su.length sc,.slice tO sb.length tc],.bool bit,.int .i64 i] w (.int .i64 ((cB xs bit i:Nat):Int)):=by
 obtain⟨m',e0,hm,hl,hk,hsu,hsb⟩:=lV _ _ _ _ hp;obtain rfl:m=m':=by omega
 clear e0;by_cases h0:i=0
 .subst h0;have R:Hid (cB xs bit 0=0):=by show cB xs bit 0=0;have:=fq xs bit 0;omega
  rw[R.out];cases bit with
  | true=>
   go_enter func178,ntmps178;go_wp2;go_ret;exact⟨rfl,below_alloc w _⟩
  | false=>
   go_enter func178,ntmps178;go_wp2;go_ret;exact⟨rfl,below_alloc w _⟩
 .obtain⟨j,hj⟩:∃j:Nat,j=(i-1)/64:=⟨_,rfl⟩;obtain⟨r,hr⟩:∃r:Nat,r=i-64*j:=⟨_,rfl⟩;have hij:i=64*j+r:=by omega
  have r0:0<r:=by omega
  have r1:r<=64:=by omega
  have lx:j<xs.length:=by omega
  have ls:j/8<su.length:=by rw[hsu,mh,Int.toNat_natCast];omega
  have lt:j<sb.length:=by rw[hsb,jL];exact lx
  have hcnt:=Hl m xs h.f hk hl j r r0 r1 (by omega);have eY:gi su (j/8)=fG (m:Int) xs (j/8):=by rw[hsu];unfold supL;rw[oA _ _ _ _ (by rw[Int.toNat_natCast];omega)]
  have eS:gi sb j=fH (m:Int) xs j:=by rw[hsb];unfold subL;rw[kR _ _ _ _ lx]
  have bY:=pt (m:Int) xs (j/8);have bS:=sP (m:Int) xs j;have bR:=pN (gt xs j:Int) (r:Int);have bC:=et xs i;obtain⟨b1,o1,rfl,hb1,hc1⟩:=h.s (by omega)
  obtain⟨b2,o2,rfl,hb2,hc2⟩:=h.t (by omega);obtain⟨b3,o3,rfl,hb3,hc3⟩:=h.x (by omega)
  obtain⟨W,hW⟩:∃W,W=w.alloc (.cells #[.int .i64 m,.slice (some ⟨b3,o3,none⟩) xs.length cap,.slice (some ⟨b1,o1,none⟩) su.length sc,.slice (some ⟨b2,o2,none⟩) sb.length tc] 36):=⟨_,rfl⟩
  have bW:=aM hW;have B1:=aU hW;have x1:=B1.cell 1 rfl;have x2:=B1.cell 2 rfl;have x3:=B1.cell 3 rfl;have y1:=(bW.cell (p:=⟨b1,o1+j/8,none⟩) hb1).trans (hc1 _ ls)
  have y2:=(bW.cell (p:=⟨b2,o2+j,none⟩) hb2).trans (hc2 _ lt);have y3:=(bW.cell (p:=⟨b3,o3+j,none⟩) hb3).trans (hc3 _ lx);rw[eY]at y1;rw[eS]at y2;have hX:=h.f j
  obtain⟨Y,hY⟩:∃Y,Hid (Y=fG (m:Int) xs (j/8)):=⟨_,rfl⟩;obtain⟨S,hS⟩:∃S,Hid (S=fH (m:Int) xs j):=⟨_,rfl⟩;obtain⟨K,hK⟩:∃K,Hid (K=dH (gt xs j:Int) (r:Int)):=⟨_,rfl⟩
  have C:Hid (∀w0,Qx 225 #[.int .u64 (gt xs j:Int),.int .i64 r] w0 (.int .i64 K)):=by
   intro w0;have:=na (gt xs j:Int) (r:Int) (Int.natCast_nonneg _) (Int.ofNat_lt.2 hX) w0;rw[hK.out];exact this
  rw[<-hY.out]at y1 bY hcnt;rw[<-hS.out]at y2 bS hcnt;rw[<-hK.out]at bR hcnt;rw[<-hij]at hcnt;obtain⟨c,hc⟩:∃c,c=cntB xs i:=⟨_,rfl⟩;rw[<-hc]at hcnt bC
  have R:Hid (cB xs bit i=if bit then c else i-c):=by show cB xs bit i=_;unfold cB;rw[hc]
  have HB:Hid (Below w.heap.size w W):=bW;have q1:((i:Int)-1)/64=(j:Int):=by omega
  have q8:(j:Int)/8<(su.length:Int):=by omega
  have e8:((j:Int)/8).toNat=j/8:=by omega
  have w8:IntKind.i64.wrap ((j:Int)/8)=(j:Int)/8:=by rw[IntKind.wrap_i64];omega
  have p8:(0:Int)<=(j:Int)/8:=by omega
  have lt2:(j:Int)<(sb.length:Int):=by omega
  have lx2:(j:Int)<(xs.length:Int):=by omega
  have m1:IntKind.i64.wrap ((j:Int)*64)=(j:Int)*64:=by rw[IntKind.wrap_i64];omega
  have m2:IntKind.i64.wrap ((i:Int)-(j:Int)*64)=(r:Int):=by rw[IntKind.wrap_i64];omega
  have m3:IntKind.i64.wrap (Y+S)=Y+S:=by rw[IntKind.wrap_i64];omega
  have m4:IntKind.i64.wrap (Y+S+K)=(c:Int):=by rw[IntKind.wrap_i64];omega
  have i0:(0:Int)<(i:Int):=by omega
  have i1:i<=1048576:=by omega
  clear hc1 hc2 hc3 h hp hl hk hsu hsb hcnt bY bS bR eY eS hj hr hij B1 bW hc;rw[R.out];clear R hY hS hK;cases bit with
  | true=>
   go_enter func178,ntmps178;go_wp2;rw[<-hW];clear hW;go_quiet ((go_at_call 225;exact Calls.quiet_of_same (C.out _)));go_wp2;go_ret;exact⟨rfl,below_drewN HB.out _⟩
  | false=>
   go_enter func178,ntmps178;go_wp2;rw[<-hW];clear hW;go_quiet ((go_at_call 225;exact Calls.quiet_of_same (C.out _)));go_wp2;go_ret;refine⟨cD ?_,below_drewN HB.out _⟩
   try simp only[Bool.false_eq_true,if_false]
   omega
end Go.Proofs.YtleegaihbgbcjaaGreatDoor
