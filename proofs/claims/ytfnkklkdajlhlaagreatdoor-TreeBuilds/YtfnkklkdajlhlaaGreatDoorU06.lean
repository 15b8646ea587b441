import Derived.Test.YtfnkklkdajlhlaaGreatDoorU05
import Derived.OrdersIn
import Derived.RangeFuncCalls
import Derived.RangeFuncIn
import Derived.RangeFuncRecord
import Derived.RangeFuncLeaves
import Derived.RangeFuncSeq
import Derived.Below
import Derived.Shelf.Abstract
import Derived.OwnWalkIn
import Derived.TacticsInMore
import Derived.LoopNIn
import Derived.LoopIn
set_option linter.unusedVariables false
set_option linter.unusedSimpArgs false
set_option maxRecDepth 100000
set_option maxHeartbeats 16000000
namespace Go.Proofs.YtfnkklkdajlhlaaGreatDoor
open Num Bit
def plc(f:Nat→Bool)(n:Nat):List Nat:=(List.range n).filter f
theorem plc_succ(f:Nat→Bool)(n:Nat):plc f (n+1)=plc f n++if f n then [n]else []:=by
 unfold plc;rw[List.range_succ,List.filter_append,List.filter_cons];cases f n<;>simp
theorem plc_le(f:Nat→Bool)(n:Nat):(plc f n).length≤n:=by
 have:=List.length_filter_le f (List.range n);rw[List.length_range]at this;exact this
theorem mem_plc(f:Nat→Bool)(n i:Nat):i∈plc f n↔i<n∧f i=true:=by
 unfold plc;rw[List.mem_filter,List.mem_range]
def Rise(l:List Nat)(n:Nat):Prop:=(∀i,i<l.length→gt l i<n)∧∀i,i+1<l.length→gt l i<gt l (i+1)
theorem gt_app_l(l m:List Nat)(i:Nat)(h:i<l.length):gt (l++m) i=gt l i:=by
 unfold gt;rw[List.getD_eq_getElem?_getD,List.getD_eq_getElem?_getD,List.getElem?_append_left h]
theorem gt_app_r(l:List Nat)(v:Nat):gt (l++[v]) l.length=v:=by
 unfold gt;rw[List.getD_eq_getElem?_getD,List.getElem?_append_right (Nat.le_refl _),Nat.sub_self];rfl
theorem Rise.snoc{l:List Nat}{n v:Nat}(h:Rise l n)(hv:v<n)(hl:0<l.length→gt l (l.length-1)<v):Rise (l++[v]) n:=by
 constructor
 ·intro i hi;rw[List.length_append,List.length_singleton]at hi;by_cases c:i<l.length
  ·rw[gt_app_l l _ i c];exact h.1 i c
  ·obtain rfl:i=l.length:=by omega
   rw[gt_app_r];exact hv
 ·intro i hi;rw[List.length_append,List.length_singleton]at hi;by_cases c:i+1<l.length
  ·rw[gt_app_l l _ i (by omega),gt_app_l l _ (i+1) c];exact h.2 i c
  ·have e:i+1=l.length:=by omega
   rw[gt_app_l l _ i (by omega),e,gt_app_r];have:=hl (by omega);rw[show l.length-1=i by omega]at this;exact this
theorem Rise.more{l:List Nat}{n m:Nat}(h:Rise l n)(hm:n≤m):Rise l m:=⟨fun i hi=>Nat.lt_of_lt_of_le (h.1 i hi) hm,h.2⟩
theorem Rise.step{l:List Nat}{n:Nat}(h:Rise l n):∀d i,i+d<l.length→gt l i+d≤gt l (i+d):=by
 intro d;induction d with
 | zero=>intro i _;exact Nat.le_refl _
 | succ d ih=>
  intro i hi;have h1:=ih i (by omega);have h2:=h.2 (i+d) (by omega);rw[show i+(d+1)=i+d+1 by omega];omega
theorem Rise.lt{l:List Nat}{n:Nat}(h:Rise l n){i j:Nat}(hij:i<j)(hj:j<l.length):gt l i<gt l j:=by
 have:=h.step (j-i) i (by omega);rw[show i+(j-i)=j by omega]at this;omega
theorem Rise.len{l:List Nat}{n:Nat}(h:Rise l n):l.length≤n:=by
 by_cases c:l.length=0
 ·omega
 ·have:=h.step (l.length-1) 0 (by omega);have:=h.1 (0+(l.length-1)) (by omega);omega
theorem plc_rise(f:Nat→Bool)(n:Nat):Rise (plc f n) n:=by
 induction n with
 | zero=>exact⟨fun i hi=>absurd hi (by simp[plc]),fun i hi=>absurd hi (by simp[plc])⟩
 | succ n ih=>
  rw[plc_succ];cases h:f n with
  | false=>simp only[Bool.false_eq_true,if_false,List.append_nil];exact ih.more (by omega)
  | true=>
   simp only[if_true];exact(ih.more (by omega)).snoc (by omega) (fun h0=>ih.1 _ (by omega))
def isIn(l:List Nat)(j:Nat):Bool:=(List.range l.length).any fun i=>gt l i==j
theorem isIn_iff(l:List Nat)(j:Nat):isIn l j=true↔∃i,i<l.length∧gt l i=j:=by
 unfold isIn;rw[List.any_eq_true];constructor
 ·rintro⟨i,hi,he⟩;exact⟨i,List.mem_range.1 hi,by simpa using he⟩
 ·rintro⟨i,hi,he⟩;exact⟨i,List.mem_range.2 hi,by simpa using he⟩
theorem isIn_snoc(l:List Nat)(v j:Nat):isIn (l++[v]) j=(isIn l j||v==j):=by
 rw[Bool.eq_iff_iff,isIn_iff,Bool.or_eq_true,isIn_iff,beq_iff_eq];constructor
 ·rintro⟨i,hi,he⟩;rw[List.length_append,List.length_singleton]at hi;by_cases c:i<l.length
  ·rw[gt_app_l l _ i c]at he;exact .inl ⟨i,c,he⟩
  ·obtain rfl:i=l.length:=by omega
   rw[gt_app_r]at he;exact .inr he
 ·rintro(⟨i,hi,he⟩ | he)
  ·exact⟨i,by rw[List.length_append];omega,by rw[gt_app_l l _ i hi];exact he⟩
  ·exact⟨l.length,by simp,by rw[gt_app_r];exact he⟩
theorem isIn_get(l:List Nat)(i:Nat)(h:i<l.length):isIn l (gt l i)=true:=(isIn_iff l _).2 ⟨i,h,rfl⟩
theorem mem_isIn(l:List Nat)(j:Nat):isIn l j=true↔j∈l:=by
 rw[isIn_iff];constructor
 ·rintro⟨i,hi,rfl⟩;unfold gt;rw[List.getD_eq_getElem?_getD,List.getElem?_eq_getElem hi];exact List.getElem_mem hi
 ·intro h;obtain⟨i,hi,he⟩:=List.getElem_of_mem h;exact⟨i,hi,by unfold gt;rw[List.getD_eq_getElem?_getD,List.getElem?_eq_getElem hi];exact he⟩
theorem rise_ext{l m:List Nat}{n:Nat}(h:Rise l n)(k:Rise m n)(e:∀j,isIn l j=isIn m j):l=m:=by
 have key:∀{l m:List Nat},Rise l n→Rise m n→(∀j,isIn l j=isIn m j)→∀i,i<l.length→i<m.length∧gt l i=gt m i:=by
  intro l m h k e i;induction i using Nat.strongRecOn with
  | _ i ih=>
   intro hi;have h1:=isIn_get l i hi;rw[e,isIn_iff]at h1;obtain⟨j,hj,hje⟩:=h1
   have hij:i≤j:=by
    refine Nat.le_of_not_lt fun c=>?_;have:=ih j c (by omega);have h3:=h.lt c hi;omega
   refine⟨by omega,?_⟩;by_cases c:i=j
   ·subst c;exact hje.symm
   ·have h4:=isIn_get m i (by omega);rw[←e,isIn_iff]at h4;obtain⟨k',hk,hke⟩:=h4;have hk2:=k.lt (show i<j by omega) hj
    have hki:k'<i:=by
     refine Nat.lt_of_not_le fun c2=>?_;by_cases c3:k'=i
     ·subst c3;omega
     ·have:=h.lt (show i<k' by omega) hk;omega
    have:=ih k' hki hk;have:=k.lt hki (show i<m.length by omega);omega
 have hl:=fun i hi=>key h k e i hi;have hm:=fun i hi=>key k h (fun j=>(e j).symm) i hi
 have hlen:l.length=m.length:=by
  by_cases c:l.length≤m.length
  ·by_cases c2:l.length=m.length
   ·exact c2
   ·have:=(hm l.length (by omega)).1;omega
  ·have:=(hl m.length (by omega)).1;omega
 exact Bit.list_ext _ _ hlen (fun i hi=>(hl i hi).2)
theorem plc_of{l:List Nat}{n:Nat}(h:Rise l n):plc (isIn l) n=l:=by
 refine rise_ext (plc_rise _ n) h fun j=>?_;rw[Bool.eq_iff_iff,mem_isIn,mem_plc,isIn_iff];constructor
 ·rintro⟨_,h2⟩;exact h2
 ·rintro⟨i,hi,rfl⟩;exact⟨h.1 i hi,i,hi,rfl⟩
def wdF(n m:Nat):Nat:=if m=0 then 0 else Go.bitLen (n/m)-1
theorem wdF_le(n m:Nat)(h:n<2^21):wdF n m≤20:=by
 unfold wdF;split
 ·omega
 ·have h1:n/m≤n:=Nat.div_le_self n m;have:=len_le (n/m) 21 (by omega);omega
def hiP(l:List Nat)(w:Nat):List Nat:=(List.range l.length).map fun i=>gt l i/2^w+i
def hiN(l:List Nat)(n w:Nat):Nat:=l.length+n/2^w+1
def loP(l:List Nat)(w:Nat):List Nat:=if w=0 then []else l.map (·%2^w)
theorem length_hiP(l:List Nat)(w:Nat):(hiP l w).length=l.length:=by simp[hiP]
theorem gt_hiP(l:List Nat)(w i:Nat)(h:i<l.length):gt (hiP l w) i=gt l i/2^w+i:=by
 unfold hiP;show gt _ i=_;unfold gt;rw[List.getD_eq_getElem?_getD,List.getElem?_map,List.getElem?_range h];rfl
theorem gt_lmap(l:List Nat)(f:Nat→Nat)(i:Nat)(h:i<l.length):gt (l.map f) i=f (gt l i):=by
 unfold gt;rw[List.getD_eq_getElem?_getD,List.getD_eq_getElem?_getD,List.getElem?_map,List.getElem?_eq_getElem h];rfl
theorem length_loP(l:List Nat)(w:Nat)(h:0<w):(loP l w).length=l.length:=by unfold loP;rw[if_neg (by omega),List.length_map]
theorem gt_loP(l:List Nat)(w i:Nat)(hw:0<w)(h:i<l.length):gt (loP l w) i=gt l i%2^w:=by unfold loP;rw[if_neg (by omega),gt_lmap l _ i h]
theorem hi_rise{l:List Nat}{n:Nat}(w:Nat)(h:Rise l n):Rise (hiP l w) (hiN l n w):=by
 constructor
 ·intro i hi;rw[length_hiP]at hi;rw[gt_hiP l w i hi];have:=Nat.div_le_div_right (c:=2^w) (Nat.le_of_lt (h.1 i hi));unfold hiN;omega
 ·intro i hi;rw[length_hiP]at hi;rw[gt_hiP l w i (by omega),gt_hiP l w (i+1) hi];have:=Nat.div_le_div_right (c:=2^w) (Nat.le_of_lt (h.2 i hi));omega
def fpl(w:Nat)(lo hi:List Nat)(q:Nat):Nat:=(gt hi q-q)*2^w+if w=0 then 0 else gt lo q%2^w
def fdec(n w:Nat)(lo hi:List Nat):Nat→Option (List Nat)
 | 0=>some []
 | q+1=>match fdec n w lo hi q with
  | none=>none
  | some out=>if n≤fpl w lo hi q∨(0<q∧fpl w lo hi q≤gt out (q-1))then none else some (out++[fpl w lo hi q])
theorem fdec_len(n w:Nat)(lo hi:List Nat):∀q out,fdec n w lo hi q=some out→out.length=q∧Rise out n:=by
 intro q;induction q with
 | zero=>intro out h;simp only[fdec,Option.some.injEq]at h;subst h;exact⟨rfl,fun i hi=>absurd hi (by simp),fun i hi=>absurd hi (by simp)⟩
 | succ q ih=>
  intro out h;rw[fdec]at h;cases hq:fdec n w lo hi q with
  | none=>rw[hq]at h;cases h
  | some o=>
   rw[hq]at h;obtain⟨h1,h2⟩:=ih o hq;simp only at h;split at h
   ·cases h
   ·rename_i hn;obtain rfl:=Option.some.inj h;refine⟨by rw[List.length_append,h1];rfl,h2.snoc (by omega) fun h0=>?_⟩;rw[h1]at h0⊢;omega
theorem fdec_none(n w:Nat)(lo hi:List Nat)(q:Nat)(h:fdec n w lo hi q=none):∀d,fdec n w lo hi (q+d)=none:=by
 intro d;induction d with
 | zero=>exact h
 | succ d ih=>rw[show q+(d+1)=q+d+1 by omega,fdec,ih]
theorem fpl_built{l:List Nat}{n:Nat}(w q:Nat)(h:q<l.length):fpl w (loP l w) (hiP l w) q=gt l q:=by
 unfold fpl;rw[gt_hiP l w q h,Nat.add_sub_cancel];by_cases hw:w=0
 ·subst hw;simp
 ·rw[if_neg hw,gt_loP l w q (by omega) h,Nat.mod_mod];rw[Nat.mul_comm];exact Nat.div_add_mod _ _
theorem take_snoc'(l:List Nat)(q:Nat)(h:q<l.length):l.take (q+1)=l.take q++[gt l q]:=by
 rw[List.take_add_one,List.getElem?_eq_getElem h];unfold gt;rw[List.getD_eq_getElem?_getD,List.getElem?_eq_getElem h];rfl
theorem gt_take'(l:List Nat)(q i:Nat)(h:i<q):gt (l.take q) i=gt l i:=by
 unfold gt;rw[List.getD_eq_getElem?_getD,List.getD_eq_getElem?_getD,List.getElem?_take_of_lt h]
theorem fdec_built{l:List Nat}{n:Nat}(w:Nat)(h:Rise l n):∀q,q≤l.length→fdec n w (loP l w) (hiP l w) q=some (l.take q):=by
 intro q;induction q with
 | zero=>intro _;rfl
 | succ q ih=>
  intro hq;rw[fdec,ih (by omega)];simp only;rw[fpl_built (n:=n) w q (by omega),if_neg,take_snoc' l q (by omega)];rintro(c | ⟨c1,c2⟩)
  ·have:=h.1 q (by omega);omega
  ·rw[gt_take' l q (q-1) (by omega)]at c2;have:=h.lt (show q-1<q by omega) (show q<l.length by omega);omega
structure FA where
 N:Int
 M:Int
 k:Int
 V:Int
 LM:Int
 xs:List Nat
 H:Int
 ys:List Nat
def fOf(n:Nat)(l:List Nat):FA:=
 ⟨n,l.length,(loP l (wdF n l.length)).length,((max (wdF n l.length) 1:Nat):Int),((loP l (wdF n l.length)).length:Int)*(max (wdF n l.length) 1:Nat),mkS (loP l (wdF n l.length)) (max (wdF n l.length) 1) (loP l (wdF n l.length)).length,hiN l n (wdF n l.length),rowOf (hiN l n (wdF n l.length)) (isIn (hiP l (wdF n l.length)))⟩
def fRow(a:FA):Option (List Nat):=
 let hi:=plc (bitAt a.ys) a.H.toNat
 let lo:=(List.range a.k.toNat).map (numAt a.V.toNat a.xs)
 let w:=wdF a.N.toNat a.M.toNat
 if (0≤a.N∧a.N≤1048576∧0≤a.M∧a.M≤a.N)∧ichk a.k a.V a.LM a.xs=true∧chk a.H a.ys=true∧(hi.length:Int)=a.M∧(w=0∨(lo.length:Int)=a.M)then fdec a.N.toNat w lo hi hi.length else none
theorem fnumAt_mk(l:List Nat)(W:Nat)(hW:1≤W)(hl:∀i,gt l i<2^W)(i:Nat)(hi:i<l.length):numAt W (mkS l W l.length) i=gt l i:=by
 unfold numAt;refine(eq_numOf W (gt l i) _ fun k=>?_).symm;by_cases c:k<W
 ·unfold mkS
  have e1:(i*W+k)/W=i:=by
   rw[Nat.mul_comm,Nat.mul_add_div (by omega),Nat.div_eq_of_lt c];omega
  have e2:(i*W+k)%W=k:=by rw[Nat.mul_comm,Nat.mul_add_mod,Nat.mod_eq_of_lt c]
  have e3:i*W+k<l.length*W:=by
   have:=mul_next l.length W i hi;omega
  rw[bitAt_rowOf,e1,e2];simp[c,e3]
 ·have:gt l i<2^k:=Nat.lt_of_lt_of_le (hl i) (Nat.pow_le_pow_right (by decide) (by omega));rw[Nat.testBit_lt_two_pow this];simp[c]
theorem fichk_mk(l:List Nat)(W:Nat)(hW:1≤W)(hW2:W≤64)(hl:l.length*W≤1048576):ichk (l.length:Int) (W:Int) ((l.length*W:Nat):Int) (mkS l W l.length)=true:=by
 unfold ichk;rw[Bool.and_eq_true,decide_eq_true_eq];refine⟨⟨by omega,by omega,by omega,by rw[Int.natCast_mul]⟩,?_⟩;exact chk_rowOf _ _ hl
theorem loP_lt(l:List Nat)(w i:Nat):gt (loP l w) i<2^(max w 1):=by
 by_cases hw:w=0
 ·subst hw;unfold loP gt;simp
 ·by_cases c:i<l.length
  ·rw[gt_loP l w i (by omega) c,show max w 1=w by omega];exact Nat.mod_lt _ (Nat.two_pow_pos _)
  ·unfold gt;rw[List.getD_eq_getElem?_getD,List.getElem?_eq_none (by rw[length_loP l w (by omega)];omega)];exact Nat.two_pow_pos _
theorem length_lo_le(l:List Nat)(w:Nat):(loP l w).length≤l.length:=by
 unfold loP;split
 ·simp
 ·rw[List.length_map];exact Nat.le_refl _
theorem plc_congr(f g:Nat→Bool)(n:Nat)(h:∀i,i<n→f i=g i):plc f n=plc g n:=by
 unfold plc;exact List.filter_congr fun i hi=>h i (List.mem_range.1 hi)
theorem lo_back(lo:List Nat)(V:Nat)(hV:1≤V)(hl:∀i,gt lo i<2^V):(List.range lo.length).map (numAt V (mkS lo V lo.length))=lo:=by
 refine Bit.list_ext _ _ (by simp) fun i hi=>?_;rw[List.length_map,List.length_range]at hi
 have e:gt ((List.range lo.length).map (numAt V (mkS lo V lo.length))) i=numAt V (mkS lo V lo.length) i:=by
  unfold gt;rw[List.getD_eq_getElem?_getD,List.getElem?_map,List.getElem?_range hi];rfl
 rw[e];exact fnumAt_mk lo V hV hl i hi
theorem fRow_of{l:List Nat}{n:Nat}(h:Rise l n)(hn:n≤1048576)(h1:hiN l n (wdF n l.length)≤1048576)(h2:(loP l (wdF n l.length)).length*max (wdF n l.length) 1≤1048576):fRow (fOf n l)=some l:=by
 have hl:=h.len;have hw:=wdF_le n l.length (by omega)
 have e1:plc (bitAt (fOf n l).ys) (fOf n l).H.toNat=hiP l (wdF n l.length):=by
  show plc (bitAt (rowOf _ _)) (hiN l n (wdF n l.length):Int).toNat=_;rw[Int.toNat_natCast,plc_congr _ (isIn (hiP l (wdF n l.length))) _ (fun i hi=>by rw[bitAt_rowOf];simp[hi])];exact plc_of (hi_rise _ h)
 have e2:(List.range (fOf n l).k.toNat).map (numAt (fOf n l).V.toNat (fOf n l).xs)=loP l (wdF n l.length):=by
  show(List.range ((loP l (wdF n l.length)).length:Int).toNat).map (numAt ((max (wdF n l.length) 1:Nat):Int).toNat _)=_;rw[Int.toNat_natCast,Int.toNat_natCast];exact lo_back _ _ (by omega) (loP_lt l _)
 have e3:ichk (fOf n l).k (fOf n l).V (fOf n l).LM (fOf n l).xs=true:=by
  have:=fichk_mk (loP l (wdF n l.length)) (max (wdF n l.length) 1) (by omega) (by omega) h2;rw[Int.natCast_mul]at this;exact this
 have e4:chk (fOf n l).H (fOf n l).ys=true:=chk_rowOf _ _ h1;have e5:(fOf n l).N.toNat=n:=rfl;have e6:(fOf n l).M.toNat=l.length:=rfl;unfold fRow;simp only[e1,e2,e3,e4,e5,e6,length_hiP];rw[if_pos]
 ·rw[fdec_built _ h l.length (Nat.le_refl _),List.take_of_length_le (Nat.le_refl _)]
 ·refine⟨?_,trivial,trivial,rfl,?_⟩
  ·show(0:Int)≤(n:Int)∧(n:Int)≤1048576∧(0:Int)≤(l.length:Int)∧(l.length:Int)≤(n:Int);omega
  ·by_cases c:wdF n l.length=0
   ·exact .inl c
   ·right;rw[length_loP l _ (by omega)];rfl
theorem and_split(a b u v t:Nat)(hu:u<2^t)(hv:v<2^t):(2^t*a+u)&&&(2^t*b+v)=2^t*(a&&&b)+(u&&&v):=by
 have huv:(u&&&v)<2^t:=Nat.lt_of_le_of_lt Nat.and_le_left hu;refine Nat.eq_of_testBit_eq fun j=>?_
 rw[Nat.testBit_and,Nat.testBit_two_pow_mul_add a hu,Nat.testBit_two_pow_mul_add b hv,Nat.testBit_two_pow_mul_add (a&&&b) huv];split<;>simp[Nat.testBit_and]
theorem odd_split(y:Nat)(h:y≠0):∃s d,y=2^s*(2*d+1):=by
 induction y using Nat.strongRecOn with
 | _ y ih=>
  by_cases c:y%2=1
  ·exact⟨0,y/2,by omega⟩
  ·obtain⟨s,d,e⟩:=ih (y/2) (by omega) (by omega);refine⟨s+1,d,?_⟩;rw[Nat.pow_succ,Nat.mul_right_comm,←e];omega
theorem and_even(d:Nat):(2*d+1)&&&(2*d)=2*d:=by
 have:=and_split d d 1 0 1 (by decide) (by decide);rw[Nat.pow_one]at this;simpa using this
theorem and_pred(s d:Nat):(2^s*(2*d+1))&&&(2^s*(2*d+1)-1)=2^(s+1)*d:=by
 have hp:=Nat.two_pow_pos s
 have e:2^s*(2*d+1)-1=2^s*(2*d)+(2^s-1):=by
  rw[Nat.mul_add];omega
 rw[e];have:=and_split (2*d+1) (2*d) 0 (2^s-1) s hp (by omega);rw[Nat.add_zero,and_even,Nat.zero_and]at this;rw[this,Nat.pow_succ,Nat.mul_assoc,Nat.add_zero]
theorem and_compl(d k:Nat)(h:d<2^k):d&&&(2^k-(d+1))=0:=by
 refine Nat.eq_of_testBit_eq fun j=>?_;rw[Nat.testBit_and,Nat.testBit_two_pow_sub_succ h,Nat.zero_testBit];cases d.testBit j<;>simp
theorem and_neg(s d:Nat)(h:2^s*(2*d+1)<18446744073709551616):(2^s*(2*d+1))&&&(18446744073709551616-2^s*(2*d+1))=2^s:=by
 have hp:=Nat.two_pow_pos s
 have hs:s<64:=by
  refine Nat.lt_of_not_le fun c=>?_;have h1:2^64≤2^s:=Nat.pow_le_pow_right (by decide) c;have h2:2^s*1≤2^s*(2*d+1):=Nat.mul_le_mul_left _ (by omega);omega
 obtain⟨k,hk⟩:∃k,64=s+(k+1):=⟨63-s,by omega⟩
 have e64:18446744073709551616=2^s*(2*2^k):=by
  rw[←Nat.pow_succ',←Nat.pow_add,←hk]
 have hd:d<2^k:=by
  rw[e64]at h;have:=Nat.lt_of_mul_lt_mul_left h;omega
 rw[e64,←Nat.mul_sub];have e2:2*2^k-(2*d+1)=2*(2^k-(d+1))+1:=by omega
 rw[e2];have h3:=and_split (2*d+1) (2*(2^k-(d+1))+1) 0 0 s hp hp;have h4:=and_split d (2^k-(d+1)) 1 1 1 (by decide) (by decide);rw[Nat.pow_one,and_compl d k hd]at h4
 simp only[Nat.add_zero,Nat.and_zero,Nat.mul_zero,Nat.zero_add]at h3 h4;rw[h3,h4];simp
def restW(x p:Nat):Nat:=2^p*(x/2^p)
theorem restW_le(x p:Nat):restW x p≤x:=Nat.mul_div_le x (2^p)
theorem restW_zero(x:Nat):restW x 0=x:=by unfold restW;simp
theorem rest_end(x p:Nat)(h:restW x p=0)(k:Nat)(hk:p≤k):x.testBit k=false:=by
 unfold restW at h
 have h0:x/2^p=0:=by
  rcases Nat.mul_eq_zero.1 h with c | c
  ·have:=Nat.two_pow_pos p;omega
  ·exact c
 have hx:x<2^p:=Nat.lt_of_div_eq_zero (Nat.two_pow_pos p) h0;exact Nat.testBit_lt_two_pow (Nat.lt_of_lt_of_le hx (Nat.pow_le_pow_right (by decide) hk))
theorem rest_low(x p:Nat)(hx:x<18446744073709551616)(h:restW x p≠0):∃t,p≤t∧t<64∧x.testBit t=true∧(∀k,p≤k→k<t→x.testBit k=false)∧(restW x p&&&(18446744073709551616-restW x p))=2^t∧(restW x p&&&(restW x p-1))=restW x (t+1):=by
 have h0:x/2^p≠0:=fun c=>h (by unfold restW;rw[c,Nat.mul_zero]);obtain⟨s,d,e⟩:=odd_split _ h0
 have er:restW x p=2^(p+s)*(2*d+1):=by
  unfold restW;rw[e,Nat.pow_add,Nat.mul_assoc]
 have hr:=restW_le x p
 have tb:∀k,p≤k→x.testBit k=(x/2^p).testBit (k-p):=fun k hk=>by
  rw[Nat.testBit_div_two_pow,Nat.sub_add_cancel hk]
 have ht:x.testBit (p+s)=true:=by
  rw[tb _ (by omega),e,Nat.add_sub_cancel_left,Nat.testBit_two_pow_mul];simp
 have h64:p+s<64:=by
  refine Nat.lt_of_not_le fun c=>?_;rw[Nat.testBit_lt_two_pow (Nat.lt_of_lt_of_le (show x<2^64 from hx) (Nat.pow_le_pow_right (by decide) c))]at ht;cases ht
 refine⟨p+s,by omega,h64,ht,fun k h1 h2=>?_,?_,?_⟩
 ·rw[tb k h1,e,Nat.testBit_two_pow_mul];have:¬s≤k-p:=by omega
  simp[this]
 ·rw[er];exact and_neg _ _ (by omega)
 ·rw[er,and_pred];unfold restW;congr 1;rw[show p+s+1=p+(s+1)by omega,Nat.pow_add,←Nat.div_div_eq_div_mul,e,Nat.pow_succ,←Nat.div_div_eq_div_mul,Nat.mul_div_cancel_left _ (Nat.two_pow_pos s)];omega
theorem plc_skip(f:Nat→Bool)(a d:Nat)(h:∀k,a≤k→k<a+d→f k=false):plc f (a+d)=plc f a:=by
 induction d with
 | zero=>rfl
 | succ d ih=>
  rw[show a+(d+1)=a+d+1 by omega,plc_succ,h (a+d) (by omega) (by omega),ih (fun k h1 h2=>h k h1 (by omega))];simp
theorem plc_mono(f:Nat→Bool)(a d:Nat):∃l,plc f (a+d)=plc f a++l:=by
 induction d with
 | zero=>exact⟨[],by simp⟩
 | succ d ih=>
  obtain⟨l,hl⟩:=ih;rw[show a+(d+1)=a+d+1 by omega,plc_succ,hl];exact⟨_,List.append_assoc _ _ _⟩
theorem plc_next(f:Nat→Bool)(a n:Nat)(ha:a<n)(h:f a=true):(plc f a).length<(plc f n).length∧gt (plc f n) (plc f a).length=a∧(plc f (a+1)).length=(plc f a).length+1:=by
 have h1:plc f (a+1)=plc f a++[a]:=by rw[plc_succ,h];rfl
 obtain⟨l,hl⟩:=plc_mono f (a+1) (n-(a+1));rw[show a+1+(n-(a+1))=n by omega,h1]at hl;refine⟨by rw[hl];simp,?_,by rw[h1];simp⟩;rw[hl,List.append_assoc]
 have:=gt_app_l (plc f a++[a]) l (plc f a).length (by simp);rw[gt_app_r,List.append_assoc]at this;exact this
theorem bitAt_word(xs:List Nat)(j k:Nat)(h:k<64):bitAt xs (64*j+k)=(gt xs j).testBit k:=by
 unfold bitAt;rw[show(64*j+k)/64=j by omega,show(64*j+k)%64=k by omega]
end Go.Proofs.YtfnkklkdajlhlaaGreatDoor
namespace Go.Proofs.YtfnkklkdajlhlaaGreatDoor
open Go
section
variable {P:Program} {ops:Array Oper} {Q:Exit→Act→World→Prop} {md:Region.Mode} {S:World→Prop} {ns:List Nat} {F:Fence} {n:Nat}
def noDefer(ops:Array Oper):Bool:=ops.toList.all fun o=>match o.op with | .defer _=>false | _=>true
theorem noDefer_spec{j:Nat}{o:Oper}(h:noDefer ops=true)(hj:ops[j]?=some o):∀c,o.op≠.defer c:=by
 intro c e;unfold noDefer at h;rw[List.all_eq_true]at h
 have hm:o∈ops.toList:=by
  rw[←Array.getElem?_toList]at hj;exact List.mem_of_getElem? hj
 have:=h o hm;rw[e]at this;cases this
theorem yields_wpOpIn{i:Nat}{o:Oper}{v:Value}{a:Act}{K:Act→World→Prop}{w:World}(hF:∀f,F.fn f)(hi:ops[i]?=some o)(hd:∀c,o.op≠.defer c)(hy:YieldsIf P ops S o v a)(hS:S w)(h:K (a.put o.dst v) w):wpOpIn F n P ops Q i K a w:=by
 unfold wpOpIn;simp only[hi];rcases hy with⟨hw,hv⟩ | ⟨hw,rfl⟩
 ·rw[if_pos hw];refine⟨fun f _=>hF f,?_⟩;rw[Oper.semAt_eq _ _ _ hd,hv w hS];exact h
 ·rw[if_neg (by rw[hw];simp)];exact⟨fun f _=>hF f,h⟩
theorem wpOpIn_late{j:Nat}{oi oj:Oper}{v:Value}{K:Act→World→Prop}{a:Act}{w:World}(hF:∀f,F.fn f)(hj:ops[j]?=some oj)(hd:∀c,oj.op≠.defer c)(hap:oi.apart ops oj=true)
  (hsi:∀cs b,oi.op≠.select cs b) (hsj:∀cs b,oj.op≠.select cs b) (hQ:∀c a w,Q (.panic c) (a.put oi.dst v) w→Q (.panic c) a w)
  (hy:YieldsIf P ops S oi v a) (h:wpOpIn F n P ops Q j K (a.put oi.dst v) w):
  wpOpIn F n P ops Q j (fun a' w'=>YieldsIf P ops S oi v a'∧K (a'.put oi.dst v) w') a w:=by
 obtain⟨h1,h2,h3⟩:=Oper.apart_spec hap;have keep:∀u,YieldsIf P ops S oi v (a.put oj.dst u):=fun u=>hy.of_same (execOp_put oi hsi a oj.dst u h3) (wanted_put oi a oj.dst u h3)
 have fit:∀u w',K ((a.put oi.dst v).put oj.dst u) w'→YieldsIf P ops S oi v (a.put oj.dst u)∧K ((a.put oj.dst u).put oi.dst v) w':=fun u w' hk=>⟨keep u,by rw[←Act.put_comm a v u h2];exact hk⟩;unfold wpOpIn at h⊢
 simp only[hj]at h⊢;rw[wanted_put oj a oi.dst v h1]at h;by_cases hw:Region.wanted oj (yielded ops a.tmps)=true
 ·rw[if_pos hw]at h⊢;refine⟨fun f _=>hF f,?_⟩;have h:=h.2;rw[Oper.semAt_eq _ _ _ hd,execOp_put oj hsj a oi.dst v h1]at h;rw[Oper.semAt_eq _ _ _ hd];generalize (execOp a.eval oj).run P w=r at h⊢;match r,h with
  | .ok (.value u) w',h=>exact fit u w' h
  | .ok .skip w',h=>exact fit undef w' h
  | .ok (.defer d) w',h=>
   have kd:YieldsIf P ops S oi v { a with defers:=d::a.defers }:=hy.of_same rfl rfl;refine⟨kd.of_same (execOp_put oi hsi _ oj.dst undef h3) (wanted_put oi _ oj.dst undef h3),?_⟩
   rw[←Act.put_comm _ v undef h2,←Act.put_defers];exact h
  | .ok (.enter f args) w',h=>
   refine⟨h.1,h.2.mono fun e w2 he=>?_⟩;match e,he with
   | .returned u,he=>exact fit u w2 he
   | .panicked c,he=>exact hQ _ _ _ he
   | .outgrown,he=>exact he
  | .ok (.row row args) w',h=>exact⟨h.1,RowsIn.mono h.2 fun u w2 he=>fit u w2 he⟩
  | .ok (.round l f tmps assign body) w',h=>
   refine⟨h.1,RoundIn.mono h.2 fun e w2 he=>?_⟩;match e,he with
   | .returned u,he=>exact fit u w2 he
   | .panicked c,he=>exact hQ _ _ _ he
   | .outgrown,he=>exact he
  | .halt (.panic u) w',h=>exact hQ _ _ _ h
 ·rw[if_neg hw]at h⊢;exact⟨fun f _=>hF f,fit undef w h.2⟩
def AnyI(F:Fence)(n:Nat)(P:Program)(md:Region.Mode)(ops:Array Oper)(Q:Exit→Act→World→Prop)(S:World→Prop)(ns:List Nat):Nat→Array Bool→Act→World→Prop
 | 0,l,a,w=>Region.ready md ops l=[]∧Q .normal a w
 | f+1,l,a,w=>(Region.ready md ops l=[]→Q .normal a w)∧∀i∈Region.ready md ops l,wpOpIn F n P ops Q i (fun a' w'=>(i ∉ ns→S w→S w')∧AnyI F n P md ops Q S ns f (l.setIfInBounds i true) a' w') a w
theorem AnyI.any:∀f l a w,AnyI F n P md ops Q S ns f l a w→wpAnyIn F n P md ops Q f l a w
 | 0,_,_,_,h=>h
 | f+1,_,_,_,h=>⟨h.1,fun i hi=>wpOpIn_mono (fun a' w' h'=>AnyI.any f _ a' w' h'.2) (h.2 i hi)⟩
theorem AnyI.first{i:Nat}{oi:Oper}{v:Value}(hF:∀f,F.fn f)(hi:ops[i]?=some oi)(hsel:Region.noSelect ops=true)(hdef:noDefer ops=true)(hQ:∀c a w,Q (.panic c) (a.put oi.dst v) w→Q (.panic c) a w)(hw:ns.all (fun n=>waits md ops n i)=true):
  ∀f l a w,(∀j oj,ops[j]?=some oj→j≠i→l.getD j true=false→(∀e∈oj.after,Region.binds md e=true→e.on≠i)→oi.apart ops oj=true)→
   i∈Region.ready md ops l→YieldsIf P ops S oi v a→S w→AnyI F n P md ops Q S ns f (l.setIfInBounds i true) (a.put oi.dst v) w→AnyI F n P md ops Q S ns (f+1) l a w:=by
 intro f;induction f with
 | zero=>
  intro l a w _ hr hy hS H;refine⟨fun h=>absurd hr (by rw[h];simp),fun j hj=>?_⟩;by_cases c:j=i
  ·subst c;exact yields_wpOpIn hF hi (noDefer_spec hdef hi) hy hS ⟨fun _ h=>h,H⟩
  ·have h1:=ready_mono hj c;rw[H.1]at h1;exact absurd h1 (by simp)
 | succ f ih=>
  intro l a w hfree hr hy hS H;refine⟨fun h=>absurd hr (by rw[h];simp),fun j hj=>?_⟩;by_cases c:j=i
  ·subst c;exact yields_wpOpIn hF hi (noDefer_spec hdef hi) hy hS ⟨fun _ h=>h,H⟩
  have hun:=(mem_ready.1 hr).1;have hjn:j ∉ ns:=fun e=>waits_not (List.all_eq_true.1 hw j e) hun hj;obtain⟨hjun,oj,hoj,hall⟩:=mem_ready.1 hj
  have hnot:∀e∈oj.after,Region.binds md e=true→e.on≠i:=by
   intro e he hb heq;have h1:=hall e he hb;rw[heq]at h1;rcases Nat.lt_or_ge i l.size with h' | h'
   ·simp[h']at hun h1;rw[hun]at h1;cases h1
   ·simp[Array.getElem?_eq_none h']at h1
  have h2:=wpOpIn_late hF hoj (noDefer_spec hdef hoj) (hfree j oj hoj c hjun hnot) (fun cs b=>Region.noSelect_spec hsel i oi cs b hi) (fun cs b=>Region.noSelect_spec hsel j oj cs b hoj) hQ hy (H.2 j (ready_mono hj c))
  refine wpOpIn_mono (fun a' w' h3=>⟨h3.2.1,ih (l.setIfInBounds j true) a' w' ?_ (ready_mono hr (Ne.symm c)) h3.1 (h3.2.1 hjn hS) ?_⟩) h2
  ·intro k ok hk hki hku hno;refine hfree k ok hk hki ?_ hno;by_cases e:j=k
   ·subst e;exact hjun
   ·rw[getD_set_ne true e]at hku;exact hku
  ·rw[Array.setIfInBounds_comm _ _ c];exact h3.2.2
theorem AnyI.take(i:Nat){oi:Oper}{v:Value}{f:Nat}{l:Array Bool}{a:Act}{w:World}(hF:∀f,F.fn f)(hi:ops[i]?=some oi)(hs:Region.noSelect ops=true)(hdef:noDefer ops=true)(hf:Region.free md ops l i=true)(hr:(Region.ready md ops l).contains i=true)(hw:ns.all (fun n=>waits md ops n i)=true)
  (hQ:∀c a w,Q (.panic c) (a.put oi.dst v) w→Q (.panic c) a w) (hS:S w) (hy:∀w0,S w0→(execOp a.eval oi).run P w0=.ok (.value v) w0) (hwn:Region.wanted oi (yielded ops a.tmps)=true)
  (h:AnyI F n P md ops Q S ns f (l.setIfInBounds i true) (a.put oi.dst v) w):AnyI F n P md ops Q S ns (f+1) l a w:=
 AnyI.first hF hi hs hdef hQ hw f l a w (Region.free_spec hi hf) (by simpa using hr) (.inl ⟨hwn,hy⟩) hS h
theorem AnyI.one(i:Nat){o:Oper}{f:Nat}{l:Array Bool}{a:Act}{w:World}(hF:∀f,F.fn f)(hr:Region.ready md ops l=[i])(ho:ops[i]?=some o)(hd:∀c,o.op≠.defer c)(hwn:Region.wanted o (yielded ops a.tmps)=true)
  (h:∀K:Act→World→Prop,Shut (∀a' w',(i ∉ ns→S w')→AnyI F n P md ops Q S ns f (l.setIfInBounds i true) a' w'→K a' w')→o.uponIn F n P a K Q ((execOp a.eval o).run P w)):
  AnyI F n P md ops Q S ns (f+1) l a w:=by
 refine⟨fun h0=>absurd (hr.symm.trans h0) (by simp),fun j hj=>?_⟩;rw[hr]at hj;obtain rfl:=List.mem_singleton.1 hj;refine wpOpIn_step ho (fun K hK=>?_);rw[if_pos hwn];refine⟨fun f _=>hF f,?_⟩
 rw[Oper.semAt_eq _ _ _ hd];exact h K (fun a' w' hS hW=>hK a' w' ⟨fun n _=>hS n,hW⟩)
theorem AnyI.done{l:Array Bool}{a:Act}{w:World}(hr:Region.ready md ops l=[])(h:Q .normal a w):∀f,AnyI F n P md ops Q S ns f l a w
 | 0=>⟨hr,h⟩
 | _+1=>⟨fun _=>h,by rw[hr];simp⟩
theorem region_i(ns:List Nat)(S:World→Prop){id:Nat}{a:Act}{w:World}(hm:P.follows .mixedOrders=true)(h:AnyI F n P .any ops Q S ns ops.size (Array.replicate ops.size false) a w.drew):(Code.region id ops true).wpIn F n P Q a w:=
 wpIn_region_any hm (AnyI.any _ _ _ _ h)
end
end Go.Proofs.YtfnkklkdajlhlaaGreatDoor
namespace Go.Proofs.YtfnkklkdajlhlaaGreatDoor
open Go Go.RowKit
structure Kept (K:Nat→Prop) (W W':World):Prop where
 os:W'.os=W.os
 tape:W'.tape=W.tape
 output:W'.output=W.output
 size:W.heap.size≤W'.heap.size
 same:∀b,K b→b<W.heap.size→W'.heap[b]?=W.heap[b]?
theorem Kept.refl(K:Nat→Prop)(W:World):Kept K W W:=⟨rfl,rfl,rfl,Nat.le_refl _,fun _ _ _=>rfl⟩
theorem Kept.trans{K:Nat→Prop}{a b c:World}(h:Kept K a b)(k:Kept K b c):Kept K a c:=
 ⟨k.os.trans h.os,k.tape.trans h.tape,k.output.trans h.output,Nat.le_trans h.size k.size,fun x hx hl=>(k.same x hx (Nat.lt_of_lt_of_le hl h.size)).trans (h.same x hx hl)⟩
theorem Kept.less{K K':Nat→Prop}{a b:World}(h:Kept K a b)(hk:∀x,K' x→K x):Kept K' a b:=⟨h.os,h.tape,h.output,h.size,fun x hx hl=>h.same x (hk x hx) hl⟩
theorem Kept.of{K:Nat→Prop}{a b:World}(h:Below a.heap.size a b):Kept K a b:=⟨h.os,h.tape,h.output,h.size,fun x _ hl=>h.block x hl⟩
theorem Kept.setCell{K:Nat→Prop}{a b:World}(h:Kept K a b){p:Addr}(hp:¬K p.block)(v:Value):Kept K a (b.setCell p v):=
 h.trans ⟨rfl,rfl,rfl,by simp[World.setCell],fun x hx _=>Below.heap_setCell _ _ _ _ (fun e=>hp (e ▸ hx))⟩
theorem Kept.putObj{K:Nat→Prop}{a b:World}(h:Kept K a b){r:Nat}(hp:¬K r)(o:Obj):Kept K a (b.putObj r o):=
 h.trans ⟨rfl,rfl,rfl,by simp,fun x hx _=>World.putObj_heap_other (fun e=>hp (e ▸ hx))⟩
theorem below_putObj{B:Nat}{W:World}{r:Nat}(h:B≤r)(o:Obj):Below B W (W.putObj r o):=
 ⟨rfl,rfl,rfl,by simp,fun x hx=>World.putObj_heap_other (by omega)⟩
theorem Kept.below{K:Nat→Prop}{B:Nat}{a b:World}(h:Kept K a b)(hB:∀x,x<B→K x)(hs:B≤a.heap.size):Below B a b:=
 ⟨h.os,h.tape,h.output,h.size,fun x hx=>h.same x (hB x hx) (by omega)⟩
theorem inRound_any(l:Nat)(f:FuncId):(Fence.wide.inRound l).fn f:=trivial
def Goes(P:Program)(g:Nat)(lb:Array Value)(N:Nat)(enc:Nat→Array Value)(K:Nat→Prop)(w:World):Prop:=
 ∀(l:Nat) (J Jx:Nat→World→Prop) (W:World),Below w.heap.size w W→(∀b,W.heap.size≤b→K b)→
  (∀q W1 W2,J q W1→Below W.heap.size W1 W2→J q W2)→(∀q W1 W2,Jx q W1→Below W.heap.size W1 W2→Jx q W2)→
  (∀q W1,q<N→J q W1→W.heap.size≤W1.heap.size→YieldAt Fence.wide 0 P l (enc q) W1 fun e W2=>
   Kept K W1 W2∧((e=.returned (.bool true)∧J (q+1) W2)∨(e=.returned (.bool false)∧Jx q W2)))→
  J 0 W→
  Calls P g (#[.func (.yield l) #[] #[]]++lb) W fun e W'=>(∃v,e=.returned v)∧(J N W'∨∃q,q<N∧Jx q W')
def roundEnd(K:Nat→Prop)(I Ix:Nat→World→Prop)(q:Nat)(W:World):Exit→Act→World→Prop
 | .normal,_,W'=>Kept K W W'∧I (q+1) W'
 | .ret,_,W'=>Kept K W W'∧Ix q W'
 | _,_,_=>False
theorem range_law{P:Program}{g:Operand}{ps:Array Tmp}{assign body:Code}{Q:Exit→Act→World→Prop}{a:Act}{w:World}{gf:Nat}{lb:Array Value}{N:Nat}{enc:Nat→Array Value}{K:Nat→Prop}
  (hg:a.eval g=.func (.func gf) #[] lb) (eg:∀args w,(callFunc gf args).run P w=.ok (.enter gf args) w) (hps:∀q,(enc q).size=ps.size)
  (hseq:Goes P gf lb N enc (fun b=>K b∧b≠w.heap.size+1) w) (hK:∀b,w.heap.size≤b→K b)
  (I Ix:Nat→World→Prop) (hI:∀q W1 W2,I q W1→Below w.heap.size W1 W2→I q W2) (hIx:∀q W1 W2,Ix q W1→Below w.heap.size W1 W2→Ix q W2) (h0:I 0 w) (a₁:Nat→Act)
  (hassign:∀(l q:Nat) (W:World) (K:Act→World→Prop),K (a₁ q) W→assign.wpIn (Fence.wide.inRound l) 0 P (Exit.then K fun _ _ _=>False) { tmps:=(ps.zip (enc q)).foldl (fun t (p,v)=>t.setIfInBounds p v) a.tmps,defers:=[] } W)
  (hbody:∀(l q:Nat) (W:World),q<N→I q W→w.heap.size+2≤W.heap.size→body.wpIn (Fence.wide.inRound l) 0 P (roundEnd K I Ix q W) (a₁ q) W)
  (hdone:∀(D:Nat) (W:World),w.heap.size≤D→I N W→W.heap[D]?=some (.deferred (some []))→Q .normal { a with defers:={ target:=.collected D,args:=#[] }::a.defers } W)
  (hstop:∀(D q:Nat) (W:World),w.heap.size≤D→q<N→Ix q W→W.heap[D]?=some (.deferred (some []))→Q .ret { a with defers:={ target:=.collected D,args:=#[] }::a.defers } W):
  (Code.rangeFunc g ps assign body).wp P Q a w:=by
 refine(wpIn_wide (n:=0)).1 (wpIn_rangeFunc fun fn _=>?_);let rc:LoopState→Option Code→Loop:=fun st pe=>{ state:=st,pending:=pe,fn,tmps:=a.tmps,params:=ps,assign,body,defers:=w.heap.size }
 let W1:=(w.alloc (.deferred (some []))).alloc (.loop (rc .ready none))
 have z1:W1.heap.size=w.heap.size+2:=by simp[W1]
 have hL1:W1.heap[w.heap.size+1]?=some (.loop (rc .ready none)):=by
  have:=World.alloc_heap_new (w.alloc (.deferred (some []))) (.loop (rc .ready none));rwa [World.size_alloc]at this
 have hD1:W1.heap[w.heap.size]?=some (.deferred (some [])):=(Below.heap_alloc _ _ _ (by simp)).trans (World.alloc_heap_new w _);have b1:Below w.heap.size w W1:=((Below.refl _ w).alloc (Nat.le_refl _) _).alloc (by simp) _
 refine⟨w.heap.size+1,[{ target:=.collected w.heap.size,args:=#[] }],W1,{ target:=.fn (.func gf) lb,args:=#[.func (.yield (w.heap.size+1)) #[] #[]] },W1,gf,#[.func (.yield (w.heap.size+1)) #[] #[]]++lb,W1,run_enterLoop_outer _ _ _ _ _,?_,fun _ _=>trivial,?_,fun h=>by simp[Fence.wide]at h,?_⟩
 ·simp only[resolve,hg];simp[go_sem]
 ·simp[invoke,go_sem,eg]
 refine callsIn_wide.2 ((hseq (w.heap.size+1) (fun q W=>I q W∧W.heap[w.heap.size+1]?=some (.loop (rc .ready none))∧W.heap[w.heap.size]?=some (.deferred (some []))) (fun q W=>Ix q W∧W.heap[w.heap.size+1]?=some (.loop (rc .done (some .ret)))∧W.heap[w.heap.size]?=some (.deferred (some []))) W1 b1 ?_ ?_ ?_ ?_ ⟨hI _ _ _ h0 b1,hL1,hD1⟩).mono ?_)
 ·exact fun b hb=>⟨hK b (by omega),by omega⟩
 ·exact fun q A B h hb=>⟨hI q A B h.1 (hb.mono (by omega)),(hb.block _ (by omega)).trans h.2.1,(hb.block _ (by omega)).trans h.2.2⟩
 ·exact fun q A B h hb=>⟨hIx q A B h.1 (hb.mono (by omega)),(hb.block _ (by omega)).trans h.2.1,(hb.block _ (by omega)).trans h.2.2⟩
 ·rintro q W hq ⟨hi,hl,hd⟩ hz;have hlt:w.heap.size+1<W.heap.size:=by omega
  refine⟨fn,_,assign,body,run_yield (P:=P) (args:=enc q) hl (hps q),roundIn_of_wpIn trivial (hassign _ q W _ ⟨_,run_beginRound hl rfl,?_⟩)⟩
  let Wb:=W.putObj (w.heap.size+1) (.loop { rc .ready none with state:=.busy })
  have zb:Wb.heap.size=W.heap.size:=by simp[Wb]
  have bb:Below w.heap.size W Wb:=below_putObj (by omega) _;have hlb:Wb.heap[w.heap.size+1]?=some (.loop { rc .ready none with state:=.busy }):=World.putObj_heap_same hlt
  have hdb:Wb.heap[w.heap.size]?=some (.deferred (some [])):=(World.putObj_heap_other (by omega)).trans hd;have kb:Kept (fun b=>K b∧b≠w.heap.size+1) W Wb:=(Kept.refl _ W).putObj (fun h=>h.2 rfl) _
  refine wpIn_mono (hbody _ q Wb hq (hI q _ _ hi bb) (by omega)) ?_
  have fin:∀(j:Option Code) (W3:World),Kept K Wb W3→(Instr.endRound (w.heap.size+1) j).run P W3=.ok (.bool j.isNone) (W3.putObj (w.heap.size+1) (.loop (rc (if j.isNone then .ready else .done) j)))∧Kept (fun b=>K b∧b≠w.heap.size+1) W (W3.putObj (w.heap.size+1) (.loop (rc (if j.isNone then .ready else .done) j)))∧Below w.heap.size W3 (W3.putObj (w.heap.size+1) (.loop (rc (if j.isNone then .ready else .done) j)))∧(W3.putObj (w.heap.size+1) (.loop (rc (if j.isNone then .ready else .done) j))).heap[w.heap.size+1]?=some (.loop (rc (if j.isNone then .ready else .done) j))∧(W3.putObj (w.heap.size+1) (.loop (rc (if j.isNone then .ready else .done) j))).heap[w.heap.size]?=some (.deferred (some [])):=fun j W3 hk=>by
   have h3:=(hk.same _ (hK _ (by omega)) (by omega)).trans hlb;have hd3:=(hk.same _ (hK _ (by omega)) (by omega)).trans hdb
   refine⟨run_endRound (P:=P) j h3,?_,below_putObj (by omega) _,World.putObj_heap_same ?_,(World.putObj_heap_other (by omega)).trans hd3⟩
   ·exact(kb.trans (hk.less fun _ h=>h.1)).putObj (fun h=>h.2 rfl) _
   ·have:=hk.size;omega
  intro e a3 W3 hp;match e,hp with
  | .normal,hp=>
   obtain⟨f1,f2,f3,f4,f5⟩:=fin none W3 hp.1;exact⟨_,_,f1,f2,.inl ⟨rfl,hI _ _ _ hp.2 f3,f4,f5⟩⟩
  | .ret,hp=>
   obtain⟨f1,f2,f3,f4,f5⟩:=fin (some .ret) W3 hp.1;exact⟨_,_,f1,f2,.inr ⟨rfl,hIx _ _ _ hp.2 f3,f4,f5⟩⟩
 ·rintro e W2 ⟨⟨v,rfl⟩,⟨hi,hl,hd⟩ | ⟨q,hq,hi,hl,hd⟩⟩
  ·exact⟨none,_,run_endLoop (P:=P) hl (by simp[rc]),hdone _ _ (Nat.le_refl _) (hI _ _ _ hi (below_putObj (by omega) _)) ((World.putObj_heap_other (by omega)).trans hd)⟩
  ·exact⟨some .ret,_,run_endLoop (P:=P) hl (by simp[rc]),wpIn_ret (hstop _ q _ (Nat.le_refl _) hq (hIx _ _ _ hi (below_putObj (by omega) _)) ((World.putObj_heap_other (by omega)).trans hd))⟩
theorem marks_end{P:Program}{fn:Func}{R:Ending→World→Prop}{tmps:Array Value}{D:Nat}{W:World}{v:Value}(hD:W.heap[D]?=some (.deferred (some [])))
  (hr:(results fn tmps).run P (W.putObj D (.deferred none))=.ok v (W.putObj D (.deferred none))) (h:R (.returned v) (W.putObj D (.deferred none))):
  bodyPostM Fence.wide 0 P fn R .normal { tmps:=tmps,defers:=[{ target:=.collected D,args:=#[] }] } W:=
 ⟨by simp,.inl ⟨_,_,rfl,run_takeDeferred hD,v,hr,h⟩⟩
theorem marks_ret{P:Program}{fn:Func}{R:Ending→World→Prop}{tmps:Array Value}{D:Nat}{W:World}{v:Value}(hD:W.heap[D]?=some (.deferred (some [])))
  (hr:(results fn tmps).run P (W.putObj D (.deferred none))=.ok v (W.putObj D (.deferred none))) (h:R (.returned v) (W.putObj D (.deferred none))):
  bodyPostM Fence.wide 0 P fn R .ret { tmps:=tmps,defers:=[{ target:=.collected D,args:=#[] }] } W:=
 ⟨by simp,.inl ⟨_,_,rfl,run_takeDeferred hD,v,hr,h⟩⟩
end Go.Proofs.YtfnkklkdajlhlaaGreatDoor
namespace Go.Proofs.YtfnkklkdajlhlaaGreatDoor
open Go.RowKit Go.Shelf Num Bit
attribute [local go_sem] Oper.semAt_some
theorem Kept.wd{K:Nat→Prop}{W W':World}{ao:Option Addr}{xs:List Nat}(h:Kept K W W')(hx:Wd W ao xs)(hK:∀p,ao=some p→0<xs.length→K p.block):Wd W' ao xs:=by
 intro h0;obtain⟨g,off,rfl,hl,hc⟩:=hx h0;have hk:=h.same g (hK _ rfl h0) hl;exact⟨g,off,rfl,Nat.lt_of_lt_of_le hl h.size,fun i hi=>(World.cell?_of_block (w:=W) hk).trans (hc i hi)⟩
theorem Kept.cel{K:Nat→Prop}{W W':World}{b:Nat}{cs:List Value}{T:TypeId}(h:Kept K W W')(hc:Cel W b cs T)(hK:K b):Cel W' b cs T:=(h.same b hK hc.lt).trans hc
theorem len_pow(t:Nat)(h:t<64):lenI ((2^t:Nat):Int)=(t:Int)+1:=by
 unfold lenI;rw[Int.toNat_natCast,len_eq (2^t) t (Nat.pow_lt_pow_right (by decide) (by omega)) (by rw[Nat.div_self (Nat.two_pow_pos t)])];omega
theorem ofOnes1_goes(Bb N:Nat)(ao:Option Addr)(xs:List Nat)(cap:Nat)(K:Nat→Prop)(w:World)(hx:Wd w ao xs)(hf:Fit xs)(hc:Cel w Bb [.int .i64 N,.slice ao xs.length cap] 33)(hK:K Bb)(hKx:∀p,ao=some p→0<xs.length→K p.block)(hk:chk (N:Int) xs=true):
  Goes Tryz.prog 195 #[.pointer (some ⟨Bb,0,none⟩)] (plc (bitAt xs) N).length (fun q=>#[.int .i64 q,.int .i64 (gt (plc (bitAt xs) N) q:Nat)]) K w:=by
 intro l J Jx W hW hKW hJ hJx hY h0;refine(callsIn_wide (n:=0)).1 (callsIn_of_wp Tryz.func195 rfl trivial ?_)
 simp only[Tryz.ntmps195,List.size_toArray,List.length_cons,List.length_nil,Nat.reduceAdd,Nat.reduceSub,Array.replicate_succ,Array.replicate_zero,List.push_toArray,List.append_toArray,List.nil_append,List.cons_append]
 replace hc:=hc.kept hW;replace hx:=hx.keep hW;have q1:=hc.cell 1 rfl;obtain⟨_,hN,hlen,hhi⟩:=chk_out (N:Int) xs hk
 have HL:Hid (plc (bitAt xs) (64*xs.length)=plc (bitAt xs) N):=by
  show plc _ _=_;have hle:N≤64*xs.length:=by omega
  rw[show 64*xs.length=N+(64*xs.length-N)by omega];exact plc_skip _ _ _ fun k h1 h2=>chk_high N xs hk k (by omega)
 have lx:xs.length≤16384:=by omega
 clear hlen hc;gi_wp2
 gi_loopw [3,4,5,6,10] (fun iv jv rv lv kv wr=>∃j c:Nat,j≤xs.length∧kv=.int .i64 j∧iv=.int .i64 c∧c≤1048576∧Hid (c=(plc (bitAt xs) (64*j)).length)∧Hid (J c wr)∧Hid (Wd wr ao xs)∧W.heap.size≤wr.heap.size) (fun _ _ _ _ k _=>xs.length-(intOf k).toNat)
 case atStart=>exact⟨0,0,Nat.zero_le _,rfl,rfl,by omega,by show 0=_;simp[plc],h0,hx,Nat.le_refl _⟩
 case round=>
  obtain⟨j,c,hj,rfl,rfl,hc0,hc,HJ,HX,hz⟩:=hrel;by_cases hlt:j<xs.length
  ·have hlt2:(j:Int)<(xs.length:Int):=by omega
   obtain⟨g,off,rfl,hgl,hcell⟩:=HX.out (by omega);have cj:=hcell j hlt;have xl:=hf j;obtain⟨x,hxx⟩:∃x,Hid (x=gt xs j):=⟨_,rfl⟩;rw[←hxx.out]at cj xl;gi_wp2
   gi_loopw [3,5,6] (fun iv rv lv wq=>∃p c r:Nat,p≤64∧iv=.int .i64 c∧rv=.int .u64 r∧r<18446744073709551616∧Hid (r=restW x p)∧c≤1048576∧Hid (c=(plc (bitAt xs) (64*j+p)).length)∧Hid (J c wq)∧Hid (Wd wq (some ⟨g,off,none⟩) xs)∧W.heap.size≤wq.heap.size) (fun _ rv _ _=>(intOf rv).toNat)
   case atStart=>exact⟨0,c,x,by omega,rfl,by rw[hxx.out],xl,by show x=_;rw[restW_zero],hc0,hc,HJ,HX,hz⟩
   case round=>
    clear hcell cj;obtain⟨p,c,r,hp,rfl,rfl,hr,Hr,hc0,hc,HJ,HX,hz⟩:=hrel;by_cases hr0:r=0
    ·subst hr0
     have HS:Hid (c=(plc (bitAt xs) (64*(j+1))).length):=by
      show c=_
      have e:=plc_skip (bitAt xs) (64*j+p) (64-p) fun k h1 h2=>by
       rw[show k=64*j+(k-64*j)by omega,bitAt_word xs j _ (by omega),←hxx.out];exact rest_end x p Hr.out.symm _ (by omega)
      rw[hc.out,show 64*(j+1)=64*j+p+(64-p)by omega,e]
     gi_wp2;exact⟨⟨j+1,c,by omega,by go_num,rfl,hc0,HS,HJ,HX,hz⟩,by simp only[intOf];omega⟩
    ·have r0:((r:Int) != 0)=true:=by simp;omega
     obtain⟨t,h1,h2,h3,h4,h5,h6⟩:=rest_low x p xl (fun e=>hr0 (Hr.out.trans e));rw[←Hr.out]at h5 h6
     have hneg:IntKind.u64.wrap (-(r:Int))=((18446744073709551616-r:Nat):Int):=by rw[IntKind.wrap_u64];omega
     have L:Hid (∀w0,Calls Tryz.prog 196 #[.int .u64 (bits BinOp.and IntKind.u64 (r:Int) (IntKind.u64.wrap (-(r:Int))))] w0 fun e w'=>e=.returned (.int .i64 ((t:Int)+1))∧w'=w0):=fun w0=>by
      rw[hneg,bits_and _ _ (by omega) (by omega) (by omega) (by omega),Int.toNat_natCast,Int.toNat_natCast,h5];have:=len_c ((2^t:Nat):Int) (by omega) (by have:=two_pow_lt t h2;omega) w0
      rw[len_pow t h2]at this;exact this
     have hpl:plc (bitAt xs) (64*j+t)=plc (bitAt xs) (64*j+p):=by
      rw[show 64*j+t=64*j+p+(t-p)by omega];refine plc_skip _ _ _ fun k e1 e2=>?_;rw[show k=64*j+(k-64*j)by omega,bitAt_word xs j _ (by omega),←hxx.out];exact h4 _ (by omega) (by omega)
     have hbt:bitAt xs (64*j+t)=true:=by rw[bitAt_word xs j t h2,←hxx.out];exact h3
     have htN:64*j+t<N:=by
      refine Nat.lt_of_not_le fun e=>?_;rw[chk_high N xs hk _ (by omega)]at hbt;cases hbt
     obtain⟨n1,n2,n3⟩:=plc_next (bitAt xs) (64*j+t) N htN hbt;rw[hpl,←hc.out]at n1 n2 n3;have Y:=hY c wr n1 HJ.out hz;have n1':=n1
     rw[n2,show((64*j+t:Nat):Int)=(j:Int)*64+(t:Int)by omega]at Y;obtain⟨r',hr'⟩:∃r',Hid (r'=restW x (t+1)):=⟨_,rfl⟩
     have hand:bits BinOp.and IntKind.u64 (r:Int) ((r:Int)-1)=(r':Int):=by
      rw[show(r:Int)-1=((r-1:Nat):Int)by omega,bits_and _ _ (by omega) (by omega) (by omega) (by omega),Int.toNat_natCast,Int.toNat_natCast,h6,hr'.out]
     have hrl:r'<r:=by
      rw[hr'.out,←h6];have:r&&&(r-1)≤r-1:=Nat.and_le_right;omega
     have HC:Hid (c+1=(plc (bitAt xs) (64*j+(t+1))).length):=n3.symm
     have c1:c+1≤1048576:=by
      have:=plc_le (bitAt xs) N;omega
     obtain⟨fn,tmps,assign,body,hy,hR⟩:=Y;clear h5 h6 hneg n1 n2 n3 hbt hpl h4 h3;gi_wp2_with fail;refine⟨trivial,rfl,?_⟩;refine(callsIn_wide.2 (L.out _)).mono ?_;rintro e w1 ⟨rfl,hw1⟩;rw[hw1];clear hw1 w1 L
     gi_wp2;refine⟨rfl,hR.mono ?_⟩;rintro e W3 ⟨hkp,⟨rfl,hJ3⟩ | ⟨rfl,hJx3⟩⟩
     ·have HJ3:Hid (J (c+1) W3):=hJ3;have HX3:Hid (Wd W3 (some ⟨g,off,none⟩) xs):=hkp.wd HX.out hKx;have hz3:=Nat.le_trans hz hkp.size;clear hJ3 hkp HJ HX hY hJ hJx;gi_wp2
      exact⟨⟨t+1,c+1,r',by omega,by go_num,rfl,by omega,hr',c1,HC,HJ3,HX3,hz3⟩,by simp only[intOf];omega⟩
     ·have HF:Hid (∃q,q<(plc (bitAt xs) N).length∧Jx q W3):=⟨c,n1',hJx3⟩;clear hJx3 hkp HJ HX hY hJ hJx;gi_wp2;refine bodyPost_ret (results_none rfl _ _ _) rfl ?_;exact⟨⟨_,rfl⟩,.inr HF.out⟩
  ·obtain rfl:j=xs.length:=by omega
   have HE:Hid (J (plc (bitAt xs) N).length wr):=by
    show J _ _;rw[←HL.out,←hc.out];exact HJ.out
   clear HJ HX hY hJ hJx;gi_wp2;refine bodyPost_end (results_none rfl _ _ _) rfl ?_;exact⟨⟨_,rfl⟩,.inl HE.out⟩
theorem ofOnes_c(N:Nat)(ao:Option Addr)(xs:List Nat)(cap:Nat)(w:World):
  Calls Tryz.prog 162 #[.agg #[.int .i64 N,.slice ao xs.length cap]] w fun e w'=>e=.returned (.func (.func 195) #[] #[.pointer (some ⟨w.heap.size,0,none⟩)])∧w'=w.alloc (.cells #[.int .i64 N,.slice ao xs.length cap] 33):=by
 go_enter Tryz.func162,Tryz.ntmps162;go_wp2;go_ret;exact⟨rfl,rfl⟩
end Go.Proofs.YtfnkklkdajlhlaaGreatDoor
namespace Go.Proofs.YtfnkklkdajlhlaaGreatDoor
open Go.RowKit Num Bit
theorem info3_9:(Tryz.prog.info? 3).map (fun i=>(i.zero,i.size,i.bytes))=some (some (.int .i64 0),1,8):=by kernel_rfl
def lz(l:List Nat):List Int:=l.map fun n:Nat=>(n:Int)
def lv(l:List Nat):List Value:=l.map fun n:Nat=>Value.int .i64 (n:Int)
theorem length_lz(l:List Nat):(lz l).length=l.length:=by simp[lz]
theorem length_lv(l:List Nat):(lv l).length=l.length:=by simp[lv]
theorem gi_lz(l:List Nat)(i:Nat):gi (lz l) i=(gt l i:Int):=by
 unfold gi lz gt;rw[List.getD_eq_getElem?_getD,List.getD_eq_getElem?_getD,List.getElem?_map];cases l[i]?<;>rfl
theorem lv_snoc(l:List Nat)(v:Nat):lv l++[.int .i64 (v:Int)]=lv (l++[v]):=by simp[lv]
theorem nd_own9{w:World}{base n c:Nat}{ao:Option Addr}{l:List Nat}(h:w.ownsRow base 3 1 (.slice ao n c) n (lv l)):Nd w ao (lz l):=by
 intro h0;rw[length_lz]at h0;have hlen:(lv l).length=n*1:=h.1;rw[length_lv]at hlen;have hk:=fun k hk=>h.lt k hk;have hc:=fun g hg=>h.cells (g:=g) hg;obtain⟨_,⟨e,e2⟩ | ⟨g,cap,cur,e,_⟩⟩:=h
 ·omega
 ·simp only[Value.slice.injEq]at e;obtain⟨rfl,_,rfl⟩:=e;refine⟨g,0,rfl,(hk g rfl).2,fun i hi=>?_⟩;rw[length_lz]at hi
  have hu:(lv l)[i]?=some (.int .i64 (gi (lz l) i)):=by
   rw[gi_lz];unfold lv gt;rw[List.getElem?_map,List.getD_eq_getElem?_getD,List.getElem?_eq_getElem hi];rfl
  rw[←hc g rfl i _ hu];unfold Addr.add;split
  ·subst_vars;rfl
  ·simp
theorem Hid.mk9{p:Prop}(h:p):Hid p:=h
theorem places_c(m:Nat)(ao:Option Addr)(xs:List Nat)(cap:Nat)(w:World)(hx:Wd w ao xs)(hk:chk (m:Int) xs=true):
  Calls Tryz.prog 128 #[.agg #[.int .i64 m,.slice ao xs.length cap]] w fun e w'=>∃v,e=.returned v∧w'.ownsRow (w.heap.size+1) 3 1 v (plc (bitAt xs) m).length (lv (plc (bitAt xs) m))∧Below w.heap.size w w':=by
 obtain⟨h0,h1,h2, -⟩:=chk_out (m:Int) xs hk;have HL:Hid (∀j,j<m→j/64<xs.length):=fun j hj=>by omega
 obtain⟨i3,hi3,za3,zb3,zc3⟩:=info_parts info3_9;have hm:m≤1048576:=by omega
 clear h2;obtain⟨W,hW⟩:∃W,W=w.alloc (.cells #[.int .i64 m,.slice ao xs.length cap] 33):=⟨_,rfl⟩;have bW:=yb1 hW;have B1:=yc1 hW;go_enter Tryz.func128,Tryz.ntmps128;go_wp2;rw[←hW];clear hW
 go_loopw [3,4] (fun v i wr=>∃q:Nat,q≤m∧i=.int .i64 q∧wr.ownsRow (w.heap.size+1) 3 1 v (plc (bitAt xs) q).length (lv (plc (bitAt xs) q))∧Cel wr w.heap.size [.int .i64 m,.slice ao xs.length cap] 33∧Below w.heap.size w wr) (fun _ i _=>m-(intOf i).toNat)
 case atStart=>exact⟨0,Nat.zero_le _,rfl,World.ownsRow_nil _ _ _ _,B1,bW⟩
 case round=>
  obtain⟨q,hq,rfl,hown,hC,hwr⟩:=hrel;clear B1 bW;have r0:=hC.cell 0 rfl;have r1:=hC.cell 1 rfl;obtain⟨vo,vc,rfl,hvc, -⟩:=Ap.owns_shape hown;have ple:=plc_le (bitAt xs) q;by_cases hlt:q<m
  ·have hlt2:(q:Int)<(m:Int):=by omega
   have C2:Hid (∀w0,Below w.heap.size w w0→Calls Tryz.prog 31 #[.agg #[.int .i64 m,.slice ao xs.length cap],.int .i64 q] w0 fun e w'=>e=.returned (.bool (bitAt xs q))∧Below w0.heap.size w0 w'):=fun w0 h=>at_c m ao xs cap q w0 (hx.keep h) (HL.out _ hlt) (by omega)
   go_wp2_with fail;refine(C2.out _ hwr).mono ?_;rintro e w2 ⟨rfl,hb2⟩;have hw2:=hwr.trans (hb2.mono hwr.size);have hC2:=hC.kept hb2;have own2:=Ap.owns_below hown hb2;clear hb2 r0 r1 C2 hC hown hwr
   cases hbit:bitAt xs q with
   | true=>
    have HP:Hid (plc (bitAt xs) (q+1)=plc (bitAt xs) q++[q]):=by show _=_;rw[plc_succ,hbit];rfl
    have bA:=below_alloc w2 (.cells #[.int .i64 (q:Int)] 3);have own3:=Ap.owns_below own2 bA
    have src3:(w2.alloc (.cells #[.int .i64 (q:Int)] 3)).cell? ⟨w2.heap.size,0,none⟩=some (.int .i64 (q:Int)):=(Cel.new w2 [.int .i64 (q:Int)] 3).cell 0 rfl;have hw3:=hw2.trans (bA.mono hw2.size)
    have hC3:=hC2.kept bA;have g3:w.heap.size+1≤(w2.alloc (.cells #[.int .i64 (q:Int)] 3)).heap.size:=hC3.lt;generalize plc (bitAt xs) q=l at *
    go_wp2_with (at_builtin;refine Ap.wpList_append_u rfl _ _ 35 rfl (w.heap.size+1) 3 i3 (.int .i64 0) 8 Tryz.underlying35 hi3 za3 zb3 zc3 rfl (.slice vo l.length vc) l.length (lv l) rfl own3 (some ⟨w2.heap.size,0,none⟩) 1 1 [.int .i64 (q:Int)] rfl rfl ?d1 ?d2 ?d3 ?d4 ?d5 ?_)
    case d1=>exact fun _=>⟨_,rfl,fun j u hj=>by
     match j,hj with
     | 0,hj=>simp at hj;subst hj;exact src3⟩
    case d2=>intro u hu;simp at hu;subst hu;rfl
    case d3=>unfold maxLen;omega
    case d4=>omega
    case d5=>exact g3
    intro so sc w4 own4 hle4 hB4;rw[lv_snoc]at own4
    have HO:Hid (w4.ownsRow (w.heap.size+1) 3 1 (.slice so (l.length+1) sc) (plc (bitAt xs) (q+1)).length (lv (plc (bitAt xs) (q+1)))):=by
     show w4.ownsRow _ _ _ _ _ _;rw[HP.out,List.length_append];exact own4
    have hC4:=hC3.keep hB4 (Nat.lt_succ_self _);have hw4:=hw3.trans (hB4.mono (Nat.le_succ _));clear own4 own3 own2 hB4 hC3 hC2 hw3 hw2 bA src3 g3 HP;go_wp2
    exact⟨⟨q+1,by omega,by go_num,HO.out,hC4,hw4⟩,by simp only[intOf];omega⟩
   | false=>
    have HP:plc (bitAt xs) (q+1)=plc (bitAt xs) q:=by rw[plc_succ,hbit];simp
    have HO:Hid (w2.ownsRow (w.heap.size+1) 3 1 (.slice vo (plc (bitAt xs) q).length vc) (plc (bitAt xs) (q+1)).length (lv (plc (bitAt xs) (q+1)))):=by
     show w2.ownsRow _ _ _ _ _ _;rw[HP];exact own2
    clear own2 HP;go_wp2;exact⟨⟨q+1,by omega,by go_num,HO.out,hC2,hw2⟩,by simp only[intOf];omega⟩
  ·obtain rfl:q=m:=by omega
   have HO:=Hid.mk9 (And.intro hown hwr);clear hown hC;go_wp2;go_ret;exact⟨_,rfl,HO.out.1,HO.out.2⟩
theorem len_pos(x:Nat)(h0:0<x)(h:x<18446744073709551616):1≤Go.bitLen x:=by
 obtain⟨p,hp,h1,_,_,_⟩:=long (x:Int) (by omega) (by omega) (by omega);unfold lenI at hp;rw[Int.toNat_natCast]at hp;omega
theorem f9width_c(n m:Nat)(hn:n≤1048576)(hm:m≤n)(w:World):
  Calls Tryz.prog 172 #[.int .i64 n,.int .i64 m] w fun e w'=>e=.returned (.int .i64 (wdF n m))∧Below w.heap.size w w':=by
 by_cases h0:m=0
 ·subst h0;rw[show wdF n 0=0 from rfl];go_enter Tryz.func172,Tryz.ntmps172;go_wp2;go_ret;exact⟨rfl,Below.refl _ _⟩
 ·have m0:((m:Int)==0)=false:=by simp;omega
  have m1:¬(m:Int)=0:=by omega
  obtain⟨d,hd⟩:∃d,d=n/m:=⟨_,rfl⟩;have d1:1≤d:=by rw[hd];exact Nat.div_pos hm (by omega)
  have d2:d≤1048576:=by rw[hd];exact Nat.le_trans (Nat.div_le_self n m) hn
  have e1:(n:Int)/(m:Int)=(d:Int):=by rw[hd];exact(Int.natCast_ediv n m).symm
  have e2:(n:Int).tdiv (m:Int)=(d:Int):=by rw[Int.tdiv_eq_ediv_of_nonneg (by omega)];exact e1
  obtain⟨z,hz⟩:∃z,Go.bitLen d=z+1:=⟨Go.bitLen d-1,by have:=len_pos d (by omega) (by omega);omega⟩;have hw:wdF n m=z:=by unfold wdF;rw[if_neg h0,←hd,hz];rfl
  have lz_:=len_le d 21 (by omega);rw[hw]
  have L:Hid (∀w0,Calls Tryz.prog 179 #[.int .u64 d] w0 fun e w'=>e=.returned (.int .i64 ((z:Int)+1))∧w'=w0):=fun w0=>by
   have:=reflen_c (d:Int) (by omega) (by omega) w0;unfold lenI at this;rw[Int.toNat_natCast,hz]at this;exact this
  rw[hz]at lz_;clear hz hw hd;go_enter Tryz.func172,Tryz.ntmps172;go_wp2_with fail;refine(L.out _).mono ?_;rintro e w1 ⟨rfl,h1⟩;rw[h1];clear h1 w1;go_wp2;go_ret;exact⟨rfl,Below.refl _ _⟩
def bvs(n:Nat)(f:Nat→Bool):List Value:=(List.range n).map fun j=>.bool (f j)
def bls(n:Nat)(f:Nat→Bool):List Bool:=(List.range n).map f
theorem length_bvs(n:Nat)(f:Nat→Bool):(bvs n f).length=n:=by simp[bvs]
theorem bvs_get(n:Nat)(f:Nat→Bool)(i:Nat)(h:i<n):(bvs n f)[i]?=some (.bool (f i)):=by
 unfold bvs;rw[List.getElem?_map,List.getElem?_range h];rfl
theorem bvs_set(n:Nat)(f:Nat→Bool)(j:Nat):(bvs n f).set j (.bool true)=bvs n (fun t=>f t||j==t):=by
 refine List.ext_getElem? fun i=>?_;rw[List.getElem?_set,length_bvs];by_cases c:i<n
 ·rw[bvs_get n _ i c,bvs_get n _ i c];by_cases d:j=i
  ·subst d;simp[c]
  ·rw[if_neg d];simp[d]
 ·have e:∀g,(bvs n g)[i]?=none:=fun g=>List.getElem?_eq_none (by rw[length_bvs];omega);rw[e,e];by_cases d:j=i
  ·subst d;simp[c]
  ·rw[if_neg d]
theorem bvs_congr(n:Nat)(f g:Nat→Bool)(h:∀i,i<n→f i=g i):bvs n f=bvs n g:=by
 unfold bvs;exact List.map_congr_left fun i hi=>by rw[h i (List.mem_range.1 hi)]
theorem bcel_made{w:World}{base g n:Nat}(h:w.ownsRow base 4 1 (.slice (some ⟨g,0,none⟩) n n) n (madeCells #[.bool false] n).toList):Cel w g (bvs n fun _=>false) 4:=by
 obtain⟨_,h | ⟨g',cap,cur,e,_,hh,_,_,hs,ht⟩⟩:=h
 ·simp at h
 ·simp only[Value.slice.injEq,Option.some.injEq,Addr.mk.injEq]at e;obtain⟨⟨rfl,_,_⟩,_,rfl⟩:=e;unfold Cel;rw[hh]
  have e2:(madeCells #[.bool false] n).toList=bvs n fun _=>false:=by
   rw[toList_madeCells_one (.bool false) n];symm;rw[List.eq_replicate_iff];refine⟨length_bvs _ _,fun b hb=>?_⟩;unfold bvs at hb;rw[List.mem_map]at hb;obtain⟨_,_,rfl⟩:=hb;rfl
  rw[e2]at ht;have e3:cur.toList.take (n*1)=cur.toList:=List.take_of_length_le (by simp;omega);rw[e3]at ht;rw[←ht]
theorem bl_cel{w:World}{g n:Nat}{f:Nat→Bool}(h:Cel w g (bvs n f) 4):Bl w (some ⟨g,0,none⟩) (bls n f):=by
 intro h0;have hl:(bls n f).length=n:=by simp[bls]
 refine⟨g,0,rfl,h.lt,fun i hi=>?_⟩;rw[hl]at hi
 have e:bt (bls n f) i=f i:=by
  unfold bt bls;rw[List.getD_eq_getElem?_getD,List.getElem?_map,List.getElem?_range hi];rfl
 rw[e,Nat.zero_add];exact h.cell i (bvs_get n f i hi)
theorem gwidth_c(n m:Nat)(hn:n≤1048576)(hm:m≤n)(w:World):
  Calls Tryz.prog 165 #[.int .i64 n,.int .i64 m] w fun e w'=>e=.returned (.int .i64 (wdF n m))∧w'=w:=by
 by_cases h0:m=0
 ·subst h0;rw[show wdF n 0=0 from rfl];go_enter Tryz.func165,Tryz.ntmps165;go_wp2;go_ret;exact⟨rfl,rfl⟩
 ·have m0:((m:Int)==0)=false:=by simp;omega
  have m1:¬(m:Int)=0:=by omega
  obtain⟨d,hd⟩:∃d,d=n/m:=⟨_,rfl⟩;have d1:1≤d:=by rw[hd];exact Nat.div_pos hm (by omega)
  have d2:d≤1048576:=by rw[hd];exact Nat.le_trans (Nat.div_le_self n m) hn
  have e1:(n:Int)/(m:Int)=(d:Int):=by rw[hd];exact(Int.natCast_ediv n m).symm
  have e2:(n:Int).tdiv (m:Int)=(d:Int):=by rw[Int.tdiv_eq_ediv_of_nonneg (by omega)];exact e1
  obtain⟨z,hz⟩:∃z,Go.bitLen d=z+1:=⟨Go.bitLen d-1,by have:=len_pos d (by omega) (by omega);omega⟩;have hw:wdF n m=z:=by unfold wdF;rw[if_neg h0,←hd,hz];rfl
  have lz_:=len_le d 21 (by omega);rw[hw]
  have L:Hid (∀w0,Calls Tryz.prog 196 #[.int .u64 d] w0 fun e w'=>e=.returned (.int .i64 ((z:Int)+1))∧w'=w0):=fun w0=>by
   have:=len_c (d:Int) (by omega) (by omega) w0;unfold lenI at this;rw[Int.toNat_natCast,hz]at this;exact this
  rw[hz]at lz_;clear hz hw hd;go_enter Tryz.func165,Tryz.ntmps165;go_wp2_with fail;refine(L.out _).mono ?_;rintro e w1 ⟨rfl,h1⟩;rw[h1];clear h1 w1;go_wp2;go_ret;exact⟨rfl,rfl⟩
theorem hide9'{p:Prop}(h:p):Hid p:=h
def loN(n m:Nat):Nat:=if wdF n m=0 then 0 else m
theorem glowSize_c(n m:Nat)(hn:n≤1048576)(hm:m≤n)(w:World):
  Calls Tryz.prog 161 #[.int .i64 n,.int .i64 m] w fun e w'=>e=.returned (.tuple #[.int .i64 (loN n m),.int .i64 (max (wdF n m) 1:Nat)])∧w'=w:=by
 have C:Hid (∀w0,Calls Tryz.prog 165 #[.int .i64 n,.int .i64 m] w0 fun e w'=>e=.returned (.int .i64 (wdF n m))∧w'=w0):=fun w0=>gwidth_c n m hn hm w0;unfold loN;have h20:=wdF_le n m (by omega)
 generalize wdF n m=v at *;by_cases h0:v=0
 ·subst h0;go_enter Tryz.func161,Tryz.ntmps161;go_wp2_with fail;refine(C.out _).mono ?_;rintro e w1 ⟨rfl,h1⟩;rw[h1];clear h1 w1;go_wp2;go_ret2;exact⟨rfl,rfl⟩
 ·have v0:(0:Int)<(v:Int):=by omega
  rw[if_neg h0,show max v 1=v by omega];go_enter Tryz.func161,Tryz.ntmps161;go_wp2_with fail;refine(C.out _).mono ?_;rintro e w1 ⟨rfl,h1⟩;rw[h1];clear h1 w1;go_wp2;go_ret2;exact⟨rfl,rfl⟩
theorem ghighSize_c(n m:Nat)(hn:n≤1048576)(hm:m≤n)(w:World):
  Calls Tryz.prog 164 #[.int .i64 n,.int .i64 m] w fun e w'=>e=.returned (.int .i64 ((m+n/2^wdF n m+1:Nat):Int))∧w'=w:=by
 have C:Hid (∀w0,Calls Tryz.prog 165 #[.int .i64 n,.int .i64 m] w0 fun e w'=>e=.returned (.int .i64 (wdF n m))∧w'=w0):=fun w0=>gwidth_c n m hn hm w0;have h20:=wdF_le n m (by omega);generalize wdF n m=v at *
 obtain⟨E,hE⟩:∃E,Hid (E=n/2^v):=⟨_,rfl⟩;have lE:E≤1048576:=by rw[hE.out];exact Nat.le_trans (Nat.div_le_self _ _) hn
 have sE:(n:Int)/2^v=(E:Int):=by rw[hE.out,Int.natCast_ediv,Int.natCast_pow];rfl
 rw[←hE.out,show((m+E+1:Nat):Int)=(m:Int)+(E:Int)+1 by omega];have v64:(v:Int)<64:=by omega
 go_enter Tryz.func164,Tryz.ntmps164;go_wp2_with fail;refine(C.out _).mono ?_;rintro e w1 ⟨rfl,h1⟩;rw[h1];clear h1 w1;go_wp2;go_ret;exact⟨rfl,rfl⟩
theorem row_set(n:Nat)(f:Nat→Bool)(p:Nat)(hp:p<n):(rowOf n f).set (p/64) (gt (rowOf n f) (p/64)|||2^(p%64))=rowOf n (fun j=>f j||p==j):=by
 have hl:p/64<(rowOf n f).length:=by rw[length_rowOf];omega
 have hfit:=fit_rowOf n f
 have hg:∀i,gt ((rowOf n f).set (p/64) (gt (rowOf n f) (p/64)|||2^(p%64))) i=if i=p/64 then gt (rowOf n f) i|||2^(p%64)else gt (rowOf n f) i:=fun i=>by
  unfold gt;rw[List.getD_eq_getElem?_getD,List.getElem?_set];by_cases c:p/64=i
  ·subst c;rw[if_pos rfl,if_pos hl,if_pos rfl];rfl
  ·rw[if_neg c,if_neg (fun e=>c e.symm),List.getD_eq_getElem?_getD]
 refine eq_rowOf n _ _ ?_ (by rw[List.length_set,length_rowOf]) ?_
 ·intro i;rw[hg];split
  ·exact Nat.or_lt_two_pow (n:=64) (hfit i) (Nat.pow_lt_pow_right (by decide) (by omega))
  ·exact hfit i
 ·intro i _;have hb:=bitAt_rowOf n f i;unfold bitAt at hb⊢;rw[hg];by_cases c:i/64=p/64
  ·rw[if_pos c,Nat.testBit_or,hb,Nat.testBit_two_pow];by_cases d:p=i
   ·subst d;simp[hp]
   ·have:¬p%64=i%64:=by omega
    have d2:(p==i)=false:=by simp[d]
    rw[d2];simp[this]
  ·have d:¬p=i:=fun e=>c (by rw[e]);have d2:(p==i)=false:=by simp[d]
   rw[if_neg c,hb,d2];simp
theorem Own.drew'{w:World}{g:Nat}{ys:List Nat}(h:Own w g ys):Own w.drew g ys:=h
theorem Turned.drew'{g:Nat}{a w:World}(h:Turned g a w):Turned g a w.drew:=⟨h.os,h.tape,h.output,h.size,h.block⟩
theorem gset_c(n:Nat)(f:Nat→Bool)(g cap p:Nat)(w:World)(hO:Own w g (rowOf n f))(hp:p<n)(hn:n≤1048576):
  Calls Tryz.prog 150 #[.slice (some ⟨g,0,none⟩) (rowOf n f).length cap,.int .i64 p] w fun e w'=>(∃v,e=.returned v)∧Own w' g (rowOf n (fun j=>f j||p==j))∧Turned g w w':=by
 have hl:p/64<(rowOf n f).length:=by rw[length_rowOf];omega
 have hl2:(p:Int)/64<((rowOf n f).length:Int):=by omega
 have hll:(rowOf n f).length≤16384:=by rw[length_rowOf];omega
 have RS:=hide9' (row_set n f p hp);have SO:Hid (IntKind.u64.wrap ((2:Int)^(p%64))=((2^(p%64):Nat):Int)):=shl_one _ (by omega);have SP:Hid (2^(p%64)<18446744073709551616):=two_pow_lt _ (by omega)
 have fx:=fit_rowOf n f;have xl:=fx (p/64);generalize rowOf n f=xs at *;have c1:=hO.cell (p/64) hl;have c2:=hO.frozen (p/64)
 have OR:Hid (bits BinOp.or IntKind.u64 (gt xs (p/64):Int) (IntKind.u64.wrap ((2:Int)^(p%64)))=((gt xs (p/64)|||2^(p%64):Nat):Int)):=by show _=_;rw[SO.out,u64_or_nat _ _ xl SP.out]
 have HO:=hide9' hO;generalize gt xs (p/64)=x at *;go_enter Tryz.func150,Tryz.ntmps150;go_region;refine bodyPost_end (results_none rfl _ _ _) rfl ?_;rw[OR.out,←RS.out]
 exact⟨⟨_,rfl⟩,(HO.out.set _ _).drew',((Turned.refl g w).set _ _).drew'⟩
end Go.Proofs.YtfnkklkdajlhlaaGreatDoor
namespace Go.Proofs.YtfnkklkdajlhlaaGreatDoor
open Go.RowKit
theorem load_obj{ops:Array Oper}{rest:List Oper}{d:Option Tmp}{ty T:TypeId}{ps:String}{af:Array Edge}{gd:Option (Nat×Bool)}{a:Act}{w:World}{Q:Exit→Act→World→Prop}{x:Operand}
  (g:Nat) (cs:List Value) {fs:Array Field} (hwn:Region.wanted (⟨d,.load T x,ty,ps,af,gd⟩:Oper) (yielded ops a.tmps)=true) (hx:a.eval x=.pointer (some ⟨g,0,none⟩)) (hc:Cel w g cs T) (hu:Tryz.prog.underlying T=some (.struct fs)) (hi:(Tryz.prog.info? T).map (·.size)=some cs.length)
  (h:wpList Tryz.prog ops Q rest (a.put d (.agg cs.toArray)) w):
  wpList Tryz.prog ops Q (⟨d,.load T x,ty,ps,af,gd⟩::rest) a w:=
 wpList_step fun K hK=>by
  rw[if_pos hwn];exact wp_load_row T x rfl g hx T cs.toArray (0,0) _ hc hu rfl (by simpa using hi) (hK _ _ h)
theorem run_load_obj{T:TypeId}{w:World}{x:Operand}{ρ:Operand→Value}{d:Option Tmp}{ty:TypeId}{ps:String}{af:Array Edge}{gd:Option (Nat×Bool)}
  (g:Nat) (cs:List Value) {fs:Array Field} (hx:ρ x=.pointer (some ⟨g,0,none⟩)) (hc:Cel w g cs T) (hu:Tryz.prog.underlying T=some (.struct fs)) (hi:(Tryz.prog.info? T).map (·.size)=some cs.length):
  (execOp ρ (⟨d,.load T x,ty,ps,af,gd⟩:Oper)).run Tryz.prog w=.ok (.value (.agg cs.toArray)) w:=by
 have hl:=run_loadVar_row (P:=Tryz.prog) w g T T cs.toArray (0,0) _ hc hu rfl (by simpa using hi);unfold execOp;simp only[hx,Instr.loadAt,Instr.sureAddr,Sem.run_bind,Sem.run_pure,Result.andThen_ok,hl]
end Go.Proofs.YtfnkklkdajlhlaaGreatDoor
namespace Go.Proofs.YtfnkklkdajlhlaaGreatDoor
open Go.RowKit Go.Shelf Num Bit
attribute [local go_sem] Oper.semAt_some
def plq(n mm:Nat)(xs:List Nat)(hh:Nat)(ys:List Nat)(q:Nat):Nat:=(gt (plc (bitAt ys) hh) q-q)*2^wdF n mm+numAt (wdF n mm) xs q
structure Fits (n mm kn vn:Nat) (LM:Int) (xs:List Nat) (hh:Nat) (ys:List Nat):Prop where
 hn:n≤1048576
 hm:mm≤n
 ik:ichk (kn:Int) (vn:Int) LM xs=true
 ck:chk (hh:Int) ys=true
 on:(plc (bitAt ys) hh).length=mm
 hv:vn=max (wdF n mm) 1
 hk:kn=loN n mm
 hh:hh=mm+n/2^wdF n mm+1
theorem fpl_plq{n mm kn vn:Nat}{LM:Int}{xs:List Nat}{hh:Nat}{ys:List Nat}(h:Fits n mm kn vn LM xs hh ys)(q:Nat)(hq:q<mm):fpl (wdF n mm) ((List.range kn).map (numAt vn xs)) (plc (bitAt ys) hh) q=plq n mm xs hh ys q:=by
 unfold fpl plq;congr 1;by_cases c:wdF n mm=0
 ·rw[if_pos c,c];rfl
 ·have e1:vn=wdF n mm:=by rw[h.hv];omega
  have e2:kn=mm:=by rw[h.hk];unfold loN;rw[if_neg c]
  rw[if_neg c,e1,e2]
  have e3:gt ((List.range mm).map (numAt (wdF n mm) xs)) q=numAt (wdF n mm) xs q:=by
   unfold gt;rw[List.getD_eq_getElem?_getD,List.getElem?_map,List.getElem?_range hq];rfl
  rw[e3];exact Nat.mod_eq_of_lt (numOf_lt _ _)
theorem slc_at{n mm kn vn:Nat}{LM:Int}{xs:List Nat}{hh:Nat}{ys:List Nat}(h:Fits n mm kn vn LM xs hh ys)(q:Nat)(hq:q<mm):slcE LM xs ((q:Int)*(wdF n mm:Int)) (wdF n mm:Int)=0∧slcX LM xs ((q:Int)*(wdF n mm:Int)) (wdF n mm:Int)=numAt (wdF n mm) xs q:=by
 have h20:=wdF_le n mm (by have:=h.hn;omega)
 have hc:chk LM xs=true:=by
  have:=h.ik;unfold ichk at this;rw[Bool.and_eq_true]at this;exact this.2
 have hLM:LM=(kn:Int)*(vn:Int):=by
  have:=h.ik;unfold ichk at this;rw[Bool.and_eq_true,decide_eq_true_eq]at this;exact this.1.2.2.2.symm
 have hE:slcE LM xs ((q:Int)*(wdF n mm:Int)) (wdF n mm:Int)=0:=by
  unfold slcE;have hq0:(0:Int)≤(q:Int)*(wdF n mm:Int):=Int.mul_nonneg (by omega) (by omega);rw[if_neg (by rw[hc];simp;omega),if_neg]
  have:(q:Int)*(wdF n mm:Int)+(wdF n mm:Int)≤LM:=by
   by_cases c:wdF n mm=0
   ·rw[c,hLM];have:(0:Int)≤(kn:Int)*(vn:Int):=Int.mul_nonneg (by omega) (by omega);simpa using this
   ·have e1:vn=wdF n mm:=by rw[h.hv];omega
    have e2:kn=mm:=by rw[h.hk];unfold loN;rw[if_neg c]
    rw[hLM,e1,e2];have:=mul_next mm (wdF n mm) q hq;rw[←Int.natCast_mul,←Int.natCast_mul];omega
  omega
 refine⟨hE,?_⟩;unfold slcX;rw[if_pos hE];unfold numAt;rw[Int.toNat_natCast,←Int.natCast_mul,Int.toNat_natCast]
theorem nb64(x:Nat)(h:x≤20971520): -9223372036854775808≤(x:Int)∧(x:Int)≤9223372036854775807:=⟨by omega,by omega⟩
theorem nw64(x:Nat)(h:x≤20971520):wrap64 (x:Int)=(x:Int):=by unfold wrap64;omega
theorem slc_call(ao:Option Addr)(xs:List Nat)(cap:Nat)(fx:Fit xs)(q v:Nat)(LM:Int)(hq:q≤1048576)(hv:v≤20)(sE:slcE LM xs ((q:Int)*(v:Int)) (v:Int)=0)(sX:slcX LM xs ((q:Int)*(v:Int)) (v:Int)=numAt v xs q)(w0:World)(h:Wd w0 ao xs):
  Calls Tryz.prog 155 #[.agg #[.int .i64 LM,.slice ao xs.length cap],.int .i64 (wrap64 ((q:Int)*(v:Int))),.int .i64 v] w0 fun e w'=>e=.returned (.tuple #[.int .u64 (numAt v xs q:Nat),.int .i64 0])∧Below w0.heap.size w0 w':=by
 have qn:q*v≤20971520:=Nat.le_trans (Nat.mul_le_mul hq hv) (by decide);rw[←Int.natCast_mul]at sE sX⊢;obtain⟨n1,n2⟩:=nb64 _ qn;obtain⟨n3,n4⟩:=nb64 v (by omega);rw[nw64 _ qn]
 have:=slice_c LM ao xs cap ((q*v:Nat):Int) v w0 h fx n1 n2 n3 n4;rw[sE,sX]at this;exact this
theorem Kept.more{K:Nat→Prop}{D:Nat}{a b c:World}(h:Kept K a b)(hb:Below D b c)(hD:a.heap.size≤D):Kept K a c:=
 ⟨hb.os.trans h.os,hb.tape.trans h.tape,hb.output.trans h.output,Nat.le_trans h.size hb.size,fun x hx hl=>(hb.block x (by omega)).trans (h.same x hx hl)⟩
theorem places1_goes(n mm kn vn hh:Nat)(LM:Int)(ao:Option Addr)(xs:List Nat)(cap:Nat)(qo:Option Addr)(ys:List Nat)(dap:Nat)(K:Nat→Prop)(w:World)(Bx Bw:Nat)(F:Fits n mm kn vn LM xs hh ys)
  (hx:Wd w ao xs) (fx:Fit xs) (hy:Wd w qo ys) (fy:Fit ys) (cx:Cel w Bx [.int .i64 (n:Nat),.int .i64 (mm:Nat),.int .i64 (kn:Nat),.int .i64 (vn:Nat),.int .i64 LM,.slice ao xs.length cap,.int .i64 (hh:Nat),.slice qo ys.length dap] 43) (cw:Cel w Bw [.int .i64 (wdF n mm:Nat)] 3) (kx:K Bx) (kw:K Bw) (ka:∀p,ao=some p→0<xs.length→K p.block) (kq:∀p,qo=some p→0<ys.length→K p.block):
  Goes Tryz.prog 189 #[.pointer (some ⟨Bx,0,none⟩),.pointer (some ⟨Bw,0,none⟩)] mm (fun q=>#[.int .i64 q,.int .i64 (plq n mm xs hh ys q:Nat)]) K w:=by
 intro l J Jx W hW hKW hJ hJx hY h0;refine(callsIn_wide (n:=0)).1 (callsIn_of_wp_marks Tryz.func189 rfl trivial ?_)
 simp only[Tryz.ntmps189,List.size_toArray,List.length_cons,List.length_nil,Nat.reduceAdd,Nat.reduceSub,Array.replicate_succ,Array.replicate_zero,List.push_toArray,List.append_toArray,List.nil_append,List.cons_append]
 refine wpIn_wide.2 ?_;replace cx:=cx.kept hW;replace cw:=cw.kept hW;replace hx:=hx.keep hW;replace hy:=hy.keep hW
 have OC:Hid (∀w0,Calls Tryz.prog 162 #[.agg #[.int .i64 hh,.slice qo ys.length dap]] w0 fun e w'=>e=.returned (.func (.func 195) #[] #[.pointer (some ⟨w0.heap.size,0,none⟩)])∧w'=w0.alloc (.cells #[.int .i64 hh,.slice qo ys.length dap] 33)):=fun w0=>ofOnes_c hh qo ys dap w0
 obtain⟨W1,hW1⟩:∃W1,W1=W.alloc (.cells #[.func (.yield l) #[] #[]] 221):=⟨_,rfl⟩;have b1:Below W.heap.size W W1:=by rw[hW1];exact below_alloc W _
 have z1:W1.heap.size=W.heap.size+1:=by rw[hW1];simp
 have cT:Cel W1 W.heap.size [.func (.yield l) #[] #[]] 221:=by rw[hW1];exact Cel.new W _ _
 have r6:=(cx.kept (below_alloc W (.cells #[.func (.yield l) #[] #[]] 221))).cell 6 rfl;have r7:=(cx.kept (below_alloc W (.cells #[.func (.yield l) #[] #[]] 221))).cell 7 rfl;go_wp2_with fail;rw[←hW1];clear hW1
 refine(OC.out _).mono ?_;rintro e w' ⟨rfl,hw'⟩;have b2:Below W1.heap.size W1 w':=by rw[hw'];exact below_alloc W1 _
 have cB:Cel w' W1.heap.size [.int .i64 hh,.slice qo ys.length dap] 33:=by rw[hw'];exact Cel.new W1 _ _
 have z2:w'.heap.size=W.heap.size+2:=by rw[hw'];simp[z1]
 rw[z1];rw[z1]at cB;clear hw' r6 r7 OC;go_wp2;have b3:Below W.heap.size W w':=b1.trans (b2.mono b1.size);have cT2:=cT.kept b2;have hi_on:=F.on
 have G:=ofOnes1_goes (W.heap.size+1) hh qo ys dap (fun b=>K b∧b≠w'.heap.size+1) w' (hy.keep b3) fy cB ⟨hKW _ (by omega),by omega⟩ (fun p hp h0=>⟨kq p hp h0,by
  obtain⟨g,off,e,hg,_⟩:=hy h0;rw[e]at hp;cases hp;show g≠_
  omega⟩) F.ck
 rw[hi_on]at G
 refine range_law (gf:=195) (lb:=#[.pointer (some ⟨W.heap.size+1,0,none⟩)]) (K:=K) rfl (enters_of Tryz.func195 (by kernel_rfl) rfl) (fun _=>rfl) G (fun b hb=>hKW b (by omega))
  (fun q Wc=>J q Wc∧Kept K w' Wc) (fun q Wc=>Jx q Wc) (fun q A B h hb=>⟨hJ q A B h.1 (hb.mono (by omega)),h.2.more hb (Nat.le_refl _)⟩) (fun q A B h hb=>hJx q A B h (hb.mono (by omega))) ⟨hJ 0 W w' h0 b3,Kept.refl _ _⟩
  (fun q=>{ tmps:=#[.func (.yield l) #[] #[],.pointer (some ⟨Bx,0,none⟩),.pointer (some ⟨Bw,0,none⟩),.pointer (some ⟨W.heap.size,0,none⟩),.int .i64 (q:Nat),.int .i64 (gt (plc (bitAt ys) hh) q:Nat),undef,undef,.pointer (some ⟨Bx,6,none⟩),.agg #[.int .i64 (hh:Nat),.slice qo ys.length dap],.func (.func 195) #[] #[.pointer (some ⟨W.heap.size+1,0,none⟩)],.int .i64 (q:Nat),.int .i64 (gt (plc (bitAt ys) hh) q:Nat),undef,undef,undef,undef,undef,undef,undef,undef,undef,undef,undef,undef,undef,undef,undef,undef,undef,undef,undef,undef,undef,undef,undef],defers:=[] }) ?assign ?body ?done ?stop
 case assign=>
  intro l1 q Wc K1 hK1;gi_wp2;exact hK1
 case body=>
  rintro l1 q Wc hq ⟨HJ,hk⟩ hz;have cx2:=hk.cel (cx.kept b3) kx;have cw2:=hk.cel (cw.kept b3) kw;have cT3:=hk.cel cT2 (hKW _ (Nat.le_refl _));have hx2:=hk.wd (hx.keep b3) ka;have Y:=hY q
  clear hY G cB cT cT2 b1 b2 z1 cx cw hx hy h0;have m4:=cx2.cell 4 rfl;have m5:=cx2.cell 5 rfl;have mw:=cw2.cell 0 rfl;have mt:=cT3.cell 0 rfl;have h20:=wdF_le n mm (by have:=F.hn;omega)
  obtain⟨sE,sX⟩:=slc_at F q hq;have lowl:numAt (wdF n mm) xs q<2^wdF n mm:=numOf_lt _ _
  have hck:chk LM xs=true:=by
   have:=F.ik;unfold ichk at this;rw[Bool.and_eq_true]at this;exact this.2
  have RS:=plc_rise (bitAt ys) hh;have hge:=RS.step q 0 (by omega);rw[Nat.zero_add]at hge;have hll:=RS.1 q (by omega);have hhl:=(chk_out _ _ F.ck).2.1;have mn:=Nat.le_trans F.hm F.hn;unfold plq at Y
  generalize gt (plc (bitAt ys) hh) q=at_ at *;generalize wdF n mm=v at *;have SC:=fun w0 h=>slc_call ao xs cap fx q v LM (by omega) h20 sE sX w0 h;have SC:=hide9' SC;clear sE sX;generalize numAt v xs q=low at *
  obtain⟨d,hd⟩:∃d,Hid (d=at_-q):=⟨_,rfl⟩;have hd2:(at_:Int)-(q:Int)=(d:Int):=by rw[hd.out];omega
  have dl:d≤1048576:=by rw[hd.out];omega
  rw[←hd.out]at Y;clear hge hll hhl RS hck
  have eA:((d*2^v+low:Nat):Int)=bits BinOp.or IntKind.i64 (IntKind.i64.wrap (IntKind.i64.wrap (d:Int)*2^v)) (IntKind.i64.wrap (low:Int)):=by
   have p20:2^v≤1048576:=Nat.pow_le_pow_right (show 0<2 by decide) h20;have pd:d*2^v≤1099511627776:=Nat.le_trans (Nat.mul_le_mul dl p20) (by decide)
   have e1:IntKind.i64.wrap (d:Int)=(d:Int):=by rw[IntKind.wrap_i64];omega
   have e2:(d:Int)*2^v=((d*2^v:Nat):Int):=by rw[Int.natCast_mul,Int.natCast_pow];rfl
   have e3:IntKind.i64.wrap ((d*2^v:Nat):Int)=((d*2^v:Nat):Int):=by rw[IntKind.wrap_i64];omega
   have e4:IntKind.i64.wrap (low:Int)=(low:Int):=by rw[IntKind.wrap_i64];omega
   rw[e1,e2,e3,e4,bits_join .i64 63 (by decide) wraps_i64 v _ _ (by omega) ?_ (by omega) (by omega) ?_ (by omega)]
   ·rfl
   ·rw[show((2:Int)^v)=((2^v:Nat):Int)by rw[Int.natCast_pow];rfl,←Int.natCast_emod,Nat.mul_mod_left];rfl
   ·rw[show((2:Int)^v)=((2^v:Nat):Int)by rw[Int.natCast_pow];rfl];omega
  rw[eA]at Y;clear eA;gi_wp2_with fail;refine⟨trivial,rfl,?_⟩;refine(CallsIn.inRound l1 (callsIn_wide.2 (SC.out _ hx2))).mono ?_;rintro e w1 ⟨rfl,hb⟩;replace cw2:=cw2.kept hb;replace cT3:=cT3.kept hb
  have kb:Kept K Wc w1:=Kept.of hb;have mw:=cw2.cell 0 rfl;have mt:=cT3.cell 0 rfl;clear cx2 m4 m5 SC;gi_wp2_with fail
  refine region_i [] (fun w0=>w0.cell? ⟨W.heap.size,0,none⟩=some (.func (.yield l) #[] #[])∧w0.cell? ⟨Bw,0,none⟩=some (.int .i64 (v:Nat))) (by kernel_rfl) ?_
  have hS:(fun w0:World=>w0.cell? ⟨W.heap.size,0,none⟩=some (.func (.yield l) #[] #[])∧w0.cell? ⟨Bw,0,none⟩=some (.int .i64 (v:Nat))) w1.drew:=⟨mt,mw⟩
  have HJ1:=hJ q Wc w1.drew HJ ((hb.mono (show W.heap.size≤Wc.heap.size by omega)).drew);obtain⟨fn,tmps,assign,body,hy,hR⟩:=Y w1.drew hq HJ1 (by have:=hb.size;show W.heap.size≤w1.heap.size;omega);clear Y HJ1
  refine AnyI.take 0 (v:=?vv1) (inRound_any _) rfl (by kernel_rfl) (by kernel_rfl) (by kernel_rfl) (by kernel_rfl) (by kernel_rfl) (fun _ _ _ h=>h) hS ?hy1 (by rfl) ?rest1
  case hy1=>
   intro w0 h0;have:=h0.1;go_simp;try with_reducible rfl
  simp only[Act.put,yq0,yq1,yq2,yq3,yq4,yq5];refine AnyI.take 1 (v:=?vv2) (inRound_any _) rfl (by kernel_rfl) (by kernel_rfl) (by kernel_rfl) (by kernel_rfl) (by kernel_rfl) (fun _ _ _ h=>h) hS ?hy2 (by rfl) ?rest2
  case hy2=>
   intro w0 h0;go_simp;try with_reducible rfl
  simp only[Act.put,yq0,yq1,yq2,yq3,yq4,yq5];refine AnyI.take 2 (v:=?vv3) (inRound_any _) rfl (by kernel_rfl) (by kernel_rfl) (by kernel_rfl) (by kernel_rfl) (by kernel_rfl) (fun _ _ _ h=>h) hS ?hy3 (by rfl) ?rest3
  case hy3=>
   intro w0 h0;go_simp;try with_reducible rfl
  simp only[Act.put,yq0,yq1,yq2,yq3,yq4,yq5];refine AnyI.take 3 (v:=?vv4) (inRound_any _) rfl (by kernel_rfl) (by kernel_rfl) (by kernel_rfl) (by kernel_rfl) (by kernel_rfl) (fun _ _ _ h=>h) hS ?hy4 (by rfl) ?rest4
  case hy4=>
   intro w0 h0;go_simp;try with_reducible rfl
  simp only[Act.put,yq0,yq1,yq2,yq3,yq4,yq5];refine AnyI.take 4 (v:=?vv5) (inRound_any _) rfl (by kernel_rfl) (by kernel_rfl) (by kernel_rfl) (by kernel_rfl) (by kernel_rfl) (fun _ _ _ h=>h) hS ?hy5 (by rfl) ?rest5
  case hy5=>
   intro w0 h0;go_simp;try with_reducible rfl
  simp only[Act.put,yq0,yq1,yq2,yq3,yq4,yq5];refine AnyI.take 5 (v:=?vv6) (inRound_any _) rfl (by kernel_rfl) (by kernel_rfl) (by kernel_rfl) (by kernel_rfl) (by kernel_rfl) (fun _ _ _ h=>h) hS ?hy6 (by rfl) ?rest6
  case hy6=>
   intro w0 h0;have:=h0.2;go_simp;try with_reducible rfl
  simp only[Act.put,yq0,yq1,yq2,yq3,yq4,yq5];refine AnyI.take 6 (v:=?vv7) (inRound_any _) rfl (by kernel_rfl) (by kernel_rfl) (by kernel_rfl) (by kernel_rfl) (by kernel_rfl) (fun _ _ _ h=>h) hS ?hy7 (by rfl) ?rest7
  case hy7=>
   intro w0 h0;go_simp;try with_reducible rfl
  simp only[Act.put,yq0,yq1,yq2,yq3,yq4,yq5];refine AnyI.take 7 (v:=?vv8) (inRound_any _) rfl (by kernel_rfl) (by kernel_rfl) (by kernel_rfl) (by kernel_rfl) (by kernel_rfl) (fun _ _ _ h=>h) hS ?hy8 (by rfl) ?rest8
  case hy8=>
   intro w0 h0;go_simp;try with_reducible rfl
  simp only[Act.put,yq0,yq1,yq2,yq3,yq4,yq5];refine AnyI.take 8 (v:=?vv9) (inRound_any _) rfl (by kernel_rfl) (by kernel_rfl) (by kernel_rfl) (by kernel_rfl) (by kernel_rfl) (fun _ _ _ h=>h) hS ?hy9 (by rfl) ?rest9
  case hy9=>
   intro w0 h0;go_simp;try with_reducible rfl
  simp only[Act.put,yq0,yq1,yq2,yq3,yq4,yq5];refine AnyI.take 9 (v:=?vv10) (inRound_any _) rfl (by kernel_rfl) (by kernel_rfl) (by kernel_rfl) (by kernel_rfl) (by kernel_rfl) (fun _ _ _ h=>h) hS ?hy10 (by rfl) ?rest10
  case hy10=>
   intro w0 h0;go_simp;try with_reducible rfl
  simp only[Act.put,yq0,yq1,yq2,yq3,yq4,yq5];refine AnyI.one 10 (inRound_any _) (by kernel_rfl) rfl (fun _ h=>by cases h) (by rfl) ?_;intro K2 hK2;go_simp;refine⟨rfl,RoundIn.mono hR ?_⟩
  rintro e W3 ⟨hkp,⟨rfl,hJ3⟩ | ⟨rfl,hJx3⟩⟩
  ·have HE:Hid (Kept K Wc W3∧J (q+1) W3∧Kept K w' W3):=⟨kb.trans ⟨hkp.os,hkp.tape,hkp.output,hkp.size,hkp.same⟩,hJ3,hk.trans (kb.trans ⟨hkp.os,hkp.tape,hkp.output,hkp.size,hkp.same⟩)⟩
   have hS3:W3.cell? ⟨W.heap.size,0,none⟩=some (.func (.yield l) #[] #[])∧W3.cell? ⟨Bw,0,none⟩=some (.int .i64 (v:Nat)):=⟨(hkp.cel cT3.drew (hKW _ (Nat.le_refl _))).cell 0 rfl,(hkp.cel cw2.drew kw).cell 0 rfl⟩
   refine hK2.out _ _ (fun _=>hS3) ?_;clear hK2 K2;try simp only[Act.put,yq0,yq1,yq2,yq3,yq4,yq5]
   refine AnyI.take 11 (v:=?vv31) (inRound_any _) rfl (by kernel_rfl) (by kernel_rfl) (by kernel_rfl) (by kernel_rfl) (by kernel_rfl) (fun _ _ _ h=>h) hS3 ?hy31 (by rfl) ?rest31
   case hy31=>
    intro w0 h0;go_simp;try with_reducible rfl
   simp only[Act.put,yq0,yq1,yq2,yq3,yq4,yq5];refine AnyI.done (by kernel_rfl) ?_ _;skip;gi_wp2;exact HE.out
  ·have HE:Hid (Kept K Wc W3∧Jx q W3):=⟨kb.trans ⟨hkp.os,hkp.tape,hkp.output,hkp.size,hkp.same⟩,hJx3⟩
   have hS3:W3.cell? ⟨W.heap.size,0,none⟩=some (.func (.yield l) #[] #[])∧W3.cell? ⟨Bw,0,none⟩=some (.int .i64 (v:Nat)):=⟨(hkp.cel cT3.drew (hKW _ (Nat.le_refl _))).cell 0 rfl,(hkp.cel cw2.drew kw).cell 0 rfl⟩
   refine hK2.out _ _ (fun _=>hS3) ?_;clear hK2 K2;try simp only[Act.put,yq0,yq1,yq2,yq3,yq4,yq5]
   refine AnyI.take 11 (v:=?vv41) (inRound_any _) rfl (by kernel_rfl) (by kernel_rfl) (by kernel_rfl) (by kernel_rfl) (by kernel_rfl) (fun _ _ _ h=>h) hS3 ?hy41 (by rfl) ?rest41
   case hy41=>
    intro w0 h0;go_simp;try with_reducible rfl
   simp only[Act.put,yq0,yq1,yq2,yq3,yq4,yq5];refine AnyI.done (by kernel_rfl) ?_ _;skip;gi_wp2;exact HE.out
 case done=>
  rintro D Wc hD ⟨HJ,hk⟩ hd;go_wp2;exact marks_end hd (results_none rfl _ _ _) ⟨⟨_,rfl⟩,.inl (hJ _ _ _ HJ (below_putObj (by omega) _))⟩
 case stop=>
  rintro D q Wc hD hq HJ hd;go_wp2;exact marks_ret hd (results_none rfl _ _ _) ⟨⟨_,rfl⟩,.inr ⟨q,hq,hJx _ _ _ HJ (below_putObj (by omega) _)⟩⟩
theorem gplaces_c(n mm kn vn hh:Nat)(LM:Int)(ao:Option Addr)(xs:List Nat)(cap:Nat)(qo:Option Addr)(ys:List Nat)(dap:Nat)(hn:n≤1048576)(hm:mm≤n)(w:World):
  Calls Tryz.prog 146 #[.agg #[.int .i64 (n:Nat),.int .i64 (mm:Nat),.int .i64 (kn:Nat),.int .i64 (vn:Nat),.int .i64 LM,.slice ao xs.length cap,.int .i64 (hh:Nat),.slice qo ys.length dap]] w fun e w'=>e=.returned (.func (.func 189) #[] #[.pointer (some ⟨w.heap.size,0,none⟩),.pointer (some ⟨w.heap.size+1,0,none⟩)])∧Cel w' w.heap.size [.int .i64 (n:Nat),.int .i64 (mm:Nat),.int .i64 (kn:Nat),.int .i64 (vn:Nat),.int .i64 LM,.slice ao xs.length cap,.int .i64 (hh:Nat),.slice qo ys.length dap] 43∧Cel w' (w.heap.size+1) [.int .i64 (wdF n mm:Nat)] 3∧w'.heap.size=w.heap.size+2∧Below w.heap.size w w':=by
 have C:Hid (∀w0,Calls Tryz.prog 165 #[.int .i64 n,.int .i64 mm] w0 fun e w'=>e=.returned (.int .i64 (wdF n mm))∧w'=w0):=fun w0=>gwidth_c n mm hn hm w0;generalize wdF n mm=v at *
 obtain⟨W,hW⟩:∃W,W=w.alloc (.cells #[.int .i64 (n:Nat),.int .i64 (mm:Nat),.int .i64 (kn:Nat),.int .i64 (vn:Nat),.int .i64 LM,.slice ao xs.length cap,.int .i64 (hh:Nat),.slice qo ys.length dap] 43):=⟨_,rfl⟩
 have bW:=yb1 hW;have zW:W.heap.size=w.heap.size+1:=by rw[hW];simp
 have B1:=yc1 hW;go_enter Tryz.func146,Tryz.ntmps146;go_wp2_with fail;rw[←hW];refine(C.out _).mono ?_;rintro e w1 ⟨rfl,h1⟩;rw[h1];clear h1 w1 hW;have bA:=below_alloc W (.cells #[.int .i64 (v:Nat)] 3)
 have HZ:Hid (Cel (W.alloc (.cells #[.int .i64 (v:Nat)] 3)) w.heap.size [.int .i64 (n:Nat),.int .i64 (mm:Nat),.int .i64 (kn:Nat),.int .i64 (vn:Nat),.int .i64 LM,.slice ao xs.length cap,.int .i64 (hh:Nat),.slice qo ys.length dap] 43∧Cel (W.alloc (.cells #[.int .i64 (v:Nat)] 3)) (w.heap.size+1) [.int .i64 (v:Nat)] 3∧(W.alloc (.cells #[.int .i64 (v:Nat)] 3)).heap.size=w.heap.size+2∧Below w.heap.size w (W.alloc (.cells #[.int .i64 (v:Nat)] 3))):=⟨B1.kept bA,by rw[←zW];exact Cel.new W _ _,by simp[zW],bW.trans (bA.mono bW.size)⟩
 clear B1 bA bW;go_wp2;go_ret;exact⟨rfl,HZ.out⟩
end Go.Proofs.YtfnkklkdajlhlaaGreatDoor
