import Derived.Test.YtleegaihbgbcjabGreatDoorU00
import Derived.RangeFuncCalls
import Derived.Shelf.Abstract
import Derived.OwnWalkIn
import Derived.TacticsInMore
import Derived.LoopNIn
import Derived.LoopIn
set_option linter.unusedVariables false
set_option linter.unusedSimpArgs false
set_option maxRecDepth 100000
set_option maxHeartbeats 16000000
open Go.Proofs.Tryz
namespace Go.Proofs.YtleegaihbgbcjabGreatDoor
open Num
namespace Bn
def ch:Nat->Nat->Nat
 | _,0=>1
 | 0,_+1=>0
 | n+1,k+1=>ch n k+ch n (k+1)
theorem jf(n:Nat):ch n 0=1:=by cases n<;>rfl
theorem iH(n k:Nat):ch (n+1) (k+1)=ch n k+ch n (k+1):=rfl
theorem mB:∀n k,n<k->ch n k=0:=by
 intro n;induction n with
 | zero=>intro k h;match k,h with | k+1,_=>rfl
 | succ n ih=>intro k h;match k,h with | k+1,h=>rw[iH,ih k (by omega),ih (k+1) (by omega)]
theorem Gq:∀n k,k<=n->0<ch n k:=by
  intro n;induction n with
  | zero => intro k h; obtain rfl : k = 0 := by omega
            exact Nat.one_pos
  | succ n ih=>
    intro k h;match k,h with
    | 0,_=>rw[jf];exact Nat.one_pos
    | k+1,h=>rw[iH];have:=ih k (by omega);omega
theorem vw:∀n k,ch n k<=2^n:=by
 intro n;induction n with
 | zero=>intro k;match k with | 0=>exact Nat.le_refl _ | k+1=>exact Nat.zero_le _
 | succ n ih=>
  intro k;match k with
  | 0=>rw[jf];exact Nat.one_le_two_pow
  | k+1=>rw[iH,Nat.pow_succ];have:=ih k;have:=ih (k+1);omega
theorem Gr(n k:Nat):ch n k<=ch (n+1) k:=by
 match k with
 | 0=>rw[jf,jf];exact Nat.le_refl _
 | k+1=>rw[iH];omega
def off(x:Nat):Nat->Nat
 | 0=>0
 | n+1=>off x n+if x/2^n%2=1 then ch n (cnt x (n+1))else 0
theorem nB(x:Nat):∀n,off x n<ch n (cnt x n):=by
 intro n;induction n with
 | zero=>exact Nat.one_pos
 | succ n ih=>
  rw[off];by_cases hb:x/2^n%2=1
  .rw[if_pos hb];have e:cnt x (n+1)=cnt x n+1:=by rw[cnt,hb]
   rw[e,iH];omega
  .rw[if_neg hb];have e:cnt x (n+1)=cnt x n:=by rw[cnt];omega
   rw[e];have:=Gr n (cnt x n);omega
theorem Bz(x m:Nat):∀n,n<=m->off (x%2^m) n=off x n:=by
 intro n;induction n with
 | zero=>intro _;rfl
 | succ n ih=>
  intro h;rw[off,off,ih (by omega),vR x m n (by omega),om x m (n+1) h]
def blk:Nat->Nat->Nat->Nat
 | 0,_,_=>0
 | i+1,k,o=>if k=0 then 0 else if ch i k<=o then 2^i+blk i (k-1) (o-ch i k)else blk i k o
theorem j6(n o:Nat):blk n 0 o=0:=by
 cases n with
 | zero=>rfl
 | succ n=>rw[blk,if_pos rfl]
theorem mJ(i k o:Nat)(hk:k≠0)(h:ch i k<=o):blk (i+1) k o=2^i+blk i (k-1) (o-ch i k):=by rw[blk,if_neg hk,if_pos h]
theorem mH(i k o:Nat)(hk:k≠0)(h:¬ch i k<=o):blk (i+1) k o=blk i k o:=by rw[blk,if_neg hk,if_neg h]
theorem jC:∀n k o,blk n k o<2^n:=by
 intro n;induction n with
 | zero=>intro k o;exact Nat.one_pos
 | succ n ih=>
  intro k o;have p:2^(n+1)=2^n+2^n:=by rw[Nat.pow_succ];omega
  by_cases hk:k=0
  .subst hk;rw[j6];exact Nat.two_pow_pos _
  .by_cases h:ch n k<=o
   .rw[mJ n k o hk h];have:=ih (k-1) (o-ch n k);omega
   .rw[mH n k o hk h];have:=ih k o;omega
theorem tI(x n:Nat):x%2^(n+1)=x%2^n+2^n*(x/2^n%2):=by rw[Nat.mod_pow_succ]
theorem qH(x:Nat):∀n,blk n (cnt x n) (off x n)=x%2^n:=by
 intro n;induction n with
 | zero=>simp[blk,Nat.mod_one]
 | succ n ih=>
  rw[tI];by_cases hb:x/2^n%2=1
  .have e:cnt x (n+1)=cnt x n+1:=by rw[cnt,hb]
   have eo:off x (n+1)=off x n+ch n (cnt x n+1):=by rw[off,if_pos hb,e]
   rw[e,eo,mJ _ _ _ (by omega) (by omega),hb,Nat.add_sub_cancel,Nat.add_sub_cancel,ih];omega
  .have e:cnt x (n+1)=cnt x n:=by rw[cnt];omega
   have eo:off x (n+1)=off x n:=by rw[off,if_neg hb,Nat.add_zero]
   have h0:x/2^n%2=0:=by omega
   rw[e,eo,h0,Nat.mul_zero];show _=x%2^n;by_cases hk:cnt x n=0
   .rw[<-ih,hk,j6,j6]
   .have:=nB x n;rw[mH _ _ _ hk (by omega),ih]
theorem gB(n k:Nat)(h:n<=62):ch n k<=4611686018427387904:=by
 have:=vw n k;have:2^n<=2^62:=Nat.pow_le_pow_right (by decide) h;omega
def chN(n k:Int):Nat:=if n<0\/62<n\/k<0\/n<k then 0 else ch n.toNat k.toNat
def wdN(n k:Int):Nat:=if chN n k=0 then 0 else Go.bitLen (chN n k-1)
def gh(x:Nat)(n:Int):Nat:=if n<0\/62<n then 0 else cnt x n.toNat
def ge(x:Nat)(n:Int):Nat:=if n<0\/62<n then 0 else off x n.toNat
def bkX(n k:Int)(o:Nat):Nat:=if chN n k<=o then 0 else blk n.toNat k.toNat o
def bkB(n k:Int)(o:Nat):Bool:=decide (o<chN n k)
theorem mC(n k:Nat)(h:n<=62):chN n k=ch n k:=by
 unfold chN;by_cases c:n<k
 .rw[if_pos (by omega),mB n k c]
 .rw[if_neg (by omega),Int.toNat_natCast,Int.toNat_natCast]
theorem vx(n k:Int):chN n k<=4611686018427387904:=by
 unfold chN;split
 .omega
 .exact gB _ _ (by omega)
theorem wR(n k:Int):wdN n k<=62:=by
 unfold wdN;split
 .omega
 .have:=vx n k;exact io _ 62 (by omega)
theorem Dl(x:Nat)(h:x<18446744073709551616):x<2^Go.bitLen x:=by
 by_cases h0:x=0
 .subst h0;exact Nat.two_pow_pos _
 .obtain⟨p,hp,h1,_,hd,_⟩:=pN (x:Int) (by omega) (by omega) (by omega);unfold bI at hp;rw[Int.toNat_natCast]at hp;have hp2:Go.bitLen x=p:=by omega
  rw[hp2]
  have e:x/2^(p-1)=1:=by
   rw[oQ _ _ (by omega),Int.toNat_natCast]at hd;omega
  have e2:2^p=2^(p-1)*2:=by
   obtain⟨m,rfl⟩:∃m,p=m+1:=⟨p-1,by omega⟩;rw[Nat.add_sub_cancel,Nat.pow_succ]
  have q:=Nat.two_pow_pos (p-1);have:=Nat.lt_mul_div_succ x q;rw[e]at this;omega
end Bn
open Num Bn
namespace Bit
def nb(N:Nat):Nat:=(N+14)/15
def blv(N:Nat)(f:Nat->Bool)(i:Nat):Nat:=numOf 15 fun k=>decide (15*i+k<N)&&f (15*i+k)
def bcl(N:Nat)(f:Nat->Bool)(i:Nat):Nat:=cnt (blv N f i) 15
def bof(N:Nat)(f:Nat->Bool)(i:Nat):Nat:=off (blv N f i) 15
def kwd(k:Nat):Nat:=Go.bitLen (ch 15 k-1)
def dQ(N:Nat)(f:Nat->Bool)(i:Nat):Nat:=kwd (bcl N f i)
def bat(N:Nat)(f:Nat->Bool):Nat->Nat
 | 0=>0
 | i+1=>bat N f i+dQ N f i
def bon(N:Nat)(f:Nat->Bool):Nat->Nat
 | 0=>0
 | i+1=>bon N f i+bcl N f i
def bits(x n:Nat):List Bool:=(List.range n).map x.testBit
def dc(N:Nat)(f:Nat->Bool):Nat->List Bool
 | 0=>[]
 | i+1=>dc N f i++bits (bof N f i) (dQ N f i)
def cC(N:Nat)(f:Nat->Bool)(i:Nat):List Nat:=(List.range i).map (bcl N f)
theorem nP(x n:Nat):(bits x n).length=n:=by simp[bits]
theorem iX(N:Nat)(f:Nat->Bool)(i:Nat):(dc N f i).length=bat N f i:=by
 induction i with
 | zero=>rfl
 | succ i ih=>rw[dc,List.length_append,ih,nP,bat]
theorem dW(N:Nat)(f:Nat->Bool)(i:Nat):(cC N f i).length=i:=by simp[cC]
theorem iK(N:Nat)(f:Nat->Bool)(i:Nat):bcl N f i<=15:=eM _ _
theorem DU(k:Nat):kwd k<=15:=io _ 15 (by
 have:=vw 15 k;have p:(2:Nat)^15=32768:=by decide
 omega)
theorem qC(N:Nat)(f:Nat->Bool)(i:Nat):dQ N f i<=15:=DU _
theorem jX(k:Nat)(h:k<=15):kwd k<=13:=by
 match k,h with
 | 0,_ | 1,_ | 2,_ | 3,_ | 4,_ | 5,_ | 6,_ | 7,_ | 8,_ | 9,_ | 10,_ | 11,_ | 12,_ | 13,_ | 14,_ | 15,_=>decide +kernel
theorem jE(N:Nat)(f:Nat->Bool)(i:Nat):bat N f i<=13*i:=by
 induction i with
 | zero=>exact Nat.le_refl _
 | succ i ih=>have:=jX (bcl N f i) (iK N f i);rw[bat,dQ];omega
theorem qE(N:Nat)(f:Nat->Bool)(i:Nat):bon N f i<=15*i:=by
 induction i with
 | zero=>exact Nat.le_refl _
 | succ i ih=>have:=iK N f i;rw[bon];omega
theorem qF(N:Nat)(f:Nat->Bool)(i:Nat):bof N f i<ch 15 (bcl N f i):=nB _ _
theorem mG(N:Nat)(f:Nat->Bool)(i:Nat):bof N f i<2^dQ N f i:=by
 have h:=qF N f i;have c:=gB 15 (bcl N f i) (by decide);have:=Dl (ch 15 (bcl N f i)-1) (by omega);unfold dQ kwd;omega
theorem tk(x n:Nat)(h:x<2^n):numOf n x.testBit=x:=by
 refine(je n x _ fun k=>?_).symm;by_cases c:k<n
 .simp[c]
 .have:x<2^k:=Nat.lt_of_lt_of_le h (Nat.pow_le_pow_right (by decide) (by omega));rw[Nat.testBit_lt_two_pow this];simp[c]
theorem qG(N:Nat)(f:Nat->Bool):∀n i t,i<n->t<dQ N f i->(dc N f n)[bat N f i+t]?=some ((bof N f i).testBit t):=by
 intro n;induction n with
 | zero=>intro i t h;omega
 | succ n ih=>
  intro i t hi ht;rw[dc];by_cases c:i<n
  .have:=ih i t c ht;have hl:=(List.getElem?_eq_some_iff.1 this).1;rw[List.getElem?_append_left hl,this]
  .obtain rfl:i=n:=by omega
   rw[List.getElem?_append_right (by rw[iX];omega),iX,Nat.add_sub_cancel_left];unfold bits;rw[List.getElem?_map,List.getElem?_range ht];rfl
def d_(N:Nat)(out:List Bool)(b:Nat):List Bool:=out++bits b (min 15 (N-out.length))
def fU(N:Nat)(M:Int)(ys:List Nat):List Nat->Nat->List Bool->Option (List Bool)
 | [],_,out=>some out
 | k::l,at_,out=>
  if slcE M ys at_ (wdN 15 k)=0/\bkB 15 k (slcX M ys at_ (wdN 15 k))=true then fU N M ys l (at_+wdN 15 k) (d_ N out (bkX 15 k (slcX M ys at_ (wdN 15 k))))else none
theorem mP(k:Nat)(h:k<=15):wdN 15 k=kwd k:=by
 unfold wdN kwd;have e:chN (15:Int) (k:Int)=ch 15 k:=mC 15 k (by decide);have:=Gq 15 k h;rw[e,if_neg (by omega)]
theorem ow(N:Nat)(f:Nat->Bool)(i:Nat):blv N f i<2^15:=fb _ _
theorem Hd(N:Nat)(f:Nat->Bool)(i:Nat):bkB 15 (bcl N f i) (bof N f i)=true/\bkX 15 (bcl N f i) (bof N f i)=blv N f i:=by
 have e:chN (15:Int) (bcl N f i:Int)=ch 15 (bcl N f i):=mC 15 _ (by decide);have h:=qF N f i;unfold bkB bkX;rw[e,if_neg (by omega)];refine⟨by simpa using h,?_⟩;have:=qH (blv N f i) 15
 rw[show((15:Int).toNat)=15 from rfl,Int.toNat_natCast];unfold bcl bof;rw[this,Nat.mod_eq_of_lt (ow N f i)]
theorem Im(N:Nat)(f:Nat->Bool)(i:Nat):d_ N ((List.range (min (15*i) N)).map f) (blv N f i)=(List.range (min (15*(i+1)) N)).map f:=by
 unfold d_;have e:min (15*(i+1)) N=min (15*i) N+min 15 (N-min (15*i) N):=by omega
 rw[e,List.range_add,List.map_append,List.length_map,List.length_range];congr 1;unfold bits;rw[List.map_map];refine List.map_congr_left fun t ht=>?_;have ht:=List.mem_range.1 ht;simp only[Function.comp];unfold blv
 rw[iM];have a1:t<15:=by omega
 have a2:min (15*i) N=15*i:=by omega
 have a3:15*i+t<N:=by omega
 rw[a2];simp[a1,a3]
def wj(N:Nat)(f:Nat->Bool)(M:Int)(ys:List Nat):Prop:=∀i,i<nb N->slcE M ys (bat N f i) (wdN 15 (bcl N f i))=0/\slcX M ys (bat N f i) (wdN 15 (bcl N f i))=bof N f i
theorem FU(N:Nat)(f:Nat->Bool)(M:Int)(ys:List Nat)(h:wj N f M ys):∀d i,i+d=nb N->fU N M ys ((List.range' i d).map (bcl N f)) (bat N f i) ((List.range (min (15*i) N)).map f)=some ((List.range N).map f):=by
 intro d;induction d with
 | zero=>
  intro i hi;have:min (15*i) N=N:=by unfold nb at hi;omega
  rw[this];rfl
 | succ d ih=>
  intro i hi;obtain⟨h1,h2⟩:=h i (by omega);obtain⟨b1,b2⟩:=Hd N f i;rw[List.range'_succ,List.map_cons,fU,h2,if_pos ⟨h1,b1⟩,b2,Im]
  have e:bat N f i+wdN 15 (bcl N f i)=bat N f (i+1):=by rw[mP _ (iK N f i)];rfl
  rw[e];exact ih (i+1) (by omega)
theorem sr(N:Nat)(f:Nat->Bool)(hN:N<=1048576):wj N f (bat N f (nb N)) (rowOf (bat N f (nb N)) fun j=>(dc N f (nb N)).getD j false):=by
 intro i hi;have hb:=jE N f (nb N);have hb2:bat N f (nb N)<=1048576:=by unfold nb at hb⊢;omega
 have hw:=qC N f i
 have mono:∀d j,bat N f j<=bat N f (j+d):=by
  intro d;induction d with
  | zero=>intro j;exact Nat.le_refl _
  | succ d ih=>intro j;have:=ih j;rw[show j+(d+1)=j+d+1 by omega,bat];omega
 have hm:bat N f (i+1)<=bat N f (nb N):=by
  have:=mono (nb N-(i+1)) (i+1);rw[show i+1+(nb N-(i+1))=nb N by omega]at this;exact this
 rw[bat]at hm;have ck:=fB (bat N f (nb N)) (fun j=>(dc N f (nb N)).getD j false) hb2;rw[mP _ (iK N f i),show kwd (bcl N f i)=dQ N f i from rfl]
 have e0:slcE (bat N f (nb N)) (rowOf (bat N f (nb N)) fun j=>(dc N f (nb N)).getD j false) (bat N f i) (dQ N f i)=0:=by
  unfold slcE;rw[if_neg (by rw[ck];simp;omega),if_neg (by omega)]
 refine⟨e0,?_⟩;unfold slcX;rw[if_pos e0,Int.toNat_natCast,Int.toNat_natCast,<-tk (bof N f i) (dQ N f i) (mG N f i)];rw[tk (bof N f i) (dQ N f i) (mG N f i)];refine(je _ _ _ fun k=>?_).symm
 by_cases c:k<dQ N f i
 .rw[eQ,List.getD_eq_getElem?_getD,qG N f (nb N) i k hi c];simp[c,show bat N f i+k<bat N f (nb N)by omega]
 .have:bof N f i<2^k:=Nat.lt_of_lt_of_le (mG N f i) (Nat.pow_le_pow_right (by decide) (by omega));rw[Nat.testBit_lt_two_pow this];simp[c]
end Bit
end Go.Proofs.YtleegaihbgbcjabGreatDoor
namespace Go.Proofs.YtleegaihbgbcjabGreatDoor
open Go.RowKit Num Bit
theorem BF(f:Nat->Bool)(q:Nat):∀d,(∀k,q<=k->f k=false)->numOf (q+d) f=numOf q f:=by
 intro d;induction d with
 | zero=>intro _;rfl
 | succ d ih=>
  intro h;rw[show q+(d+1)=q+d+1 by omega,numOf,ih h,h (q+d) (by omega)];simp
def iJ(N:Nat)(xs:List Nat)(at_:Nat)(k:Nat):Bool:=decide (at_+k<N)&&bitAt xs (at_+k)
theorem Bf(f:Nat->Bool)(q:Nat):numOf q f|||2^q=numOf q f+2^q:=by
 have:=Nat.two_pow_add_eq_or_of_lt (fb q f) 1;rw[Nat.mul_one]at this;rw[Nat.or_comm,<-this,Nat.add_comm]
theorem zS(m:Nat)(ao:Option Addr)(xs:List Nat)(cap:Nat)(p:Nat)(w:World)(hx:Wd w ao xs)(hk:am (m:Int) xs=true)(hp:p<=m):
  Qq 107 #[.agg #[.int .i64 m,.slice ao xs.length cap],.int .i64 p] w (.int .u64 (numOf 15 (iJ m xs p))):=by
 obtain⟨h0,h1,h2, -⟩:=bj (m:Int) xs hk;have HL:Hid (∀j,j<m->j/64<xs.length):=fun j hj=>by omega
 clear h2;have m20:m<=1048576:=by omega
 go_enter func107,ntmps107;go_wp2
 go_loopw [5,6] (fun xv i wr=>∃q X:Nat,q<=15/\i=.int .i64 q/\xv=.int .u64 X/\Hid (X=numOf q (iJ m xs p))/\aa wr w.heap.size [.int .i64 m,.slice ao xs.length cap] 53/\Below w.heap.size w wr) (fun _ i _=>15-(intOf i).toNat)
 case atStart=>exact⟨0,0,by omega,rfl,rfl,rfl,aa.new w _ _,below_alloc w _⟩
 case round=>
  obtain⟨q,X,hq,rfl,rfl,HX,hC,hwr⟩:=hrel;have r0:=hC.cell 0 rfl;have r1:=hC.cell 1 rfl
  have bX:X<32768:=by
   rw[HX.out];have h:=fb q (iJ m xs p);have:2^q<=2^15:=Nat.pow_le_pow_right (by decide) hq;omega
  by_cases hlt:q<15
  .by_cases hin:p+q<m
   .have hin2:(p:Int)+(q:Int)<(m:Int):=by omega
    have q64:(q:Int)<64:=by omega
    have C2:Hid (Qz w 65 #[.agg #[.int .i64 m,.slice ao xs.length cap],.int .i64 ((p:Int)+(q:Int))] (.bool (bitAt xs (p+q)))):=fun w0 h=>mK m ao xs cap (p+q) w0 (hx.keep h) (HL.out _ hin) (by omega)
    go_wp2_with fail;refine mr (C2.out _ hwr) fun w2 hb2=>?_;have hw2:=bg hwr hb2;have hC2:=hC.kept hb2;clear hb2 r0 r1 C2;cases hbit:bitAt xs (p+q)with
    | true=>
     have HR:Hid (bits .or .u64 (X:Int) (IntKind.u64.wrap (2^q))=((X+2^q:Nat):Int)/\X+2^q=numOf (q+1) (iJ m xs p)):=by
      show _/\_;refine⟨?_,?_⟩
      .rw[Bit.shl_one q (by omega),u64_or_nat _ _ (by omega) (eV q (by omega)),HX.out,Bf]
      .rw[numOf,<-HX.out];unfold iJ;simp[hin,hbit]
     go_wp2;exact⟨⟨q+1,X+2^q,by omega,by go_num,congrArg (Value.int .u64) HR.out.1,HR.out.2,hC2,hw2⟩,by simp only[intOf];omega⟩
    | false=>
     have HR:Hid (X=numOf (q+1) (iJ m xs p)):=by
      show X=_;rw[numOf,<-HX.out];unfold iJ;simp[hbit]
     go_wp2;exact⟨⟨q+1,X,by omega,by go_num,rfl,HR,hC2,hw2⟩,by simp only[intOf];omega⟩
   .have hin2:¬(p:Int)+(q:Int)<(m:Int):=by omega
    have HR:Hid (numOf 15 (iJ m xs p)=X):=by
     show numOf 15 (iJ m xs p)=X;rw[HX.out,show(15:Nat)=q+(15-q)by omega,BF _ q _ (fun k hk=>by unfold iJ;rw[decide_eq_false (by omega)];rfl)]
    go_wp2;go_ret;rw[HR.out];exact⟨rfl,hwr⟩
  .obtain rfl:q=15:=by omega
   go_wp2;go_ret;rw[<-HX.out];exact⟨rfl,hwr⟩
theorem Tryz.info4:(prog.info? 4).map (fun i=>(i.zero,i.size,i.bytes))=some (some (.bool false),1,1):=by kernel_rfl
def bK(l:List Bool):List Value:=l.map fun b=>Value.bool b
theorem GD(x q:Nat):bK (Bit.bits x q)++[.bool (x.testBit q)]=bK (Bit.bits x (q+1)):=by
 unfold bK Bit.bits;rw[List.range_succ,List.map_append,List.map_append];rfl
theorem rH(x q:Nat):(((x:Int)/2^q).tmod 2==1)=x.testBit q:=by
 rw[lH,ie];have:((x/2^q:Nat):Int).tmod 2=((x/2^q%2:Nat):Int):=by generalize x/2^q=z;rw[Int.tmod_eq_emod_of_nonneg (by omega)];omega
 rw[this,Bool.eq_iff_iff,beq_iff_eq,decide_eq_true_eq];omega
theorem Do(x n:Nat)(hx64:x<18446744073709551616)(hn:n<=64)(w:World):
    Calls prog 108 #[.int .u64 x,.int .i64 n] w fun e w'=>∃v,e=.returned v/\w'.ownsRow w.heap.size 4 1 v n (bK (Bit.bits x n))/\Below w.heap.size w w':=by
  obtain⟨i0,hi,hz0,hz1,hz2⟩:=info_parts Tryz.info4;have x0:(0:Int)<=(x:Int):=by omega
  go_enter func108,ntmps108;go_wp2;go_loopw [5,6] (fun v i wr=>∃q:Nat,q<=n/\i=.int .i64 q/\wr.ownsRow w.heap.size 4 1 v q (bK (Bit.bits x q))/\Below w.heap.size w wr) (fun _ i _=>n-(intOf i).toNat)
  case atStart=>exact⟨0,Nat.zero_le _,rfl,World.ownsRow_nil _ _ _ _,Below.refl _ _⟩
  case round=>
    obtain⟨q,hq,rfl,hown,hwr⟩:=hrel;by_cases hlt:q<n
    . have hlt2:(q:Int)<(n:Int):=by omega
      have q64:(q:Int)<64:=by omega
      have T:Hid ((((x:Int)/2^q).tmod 2==1)=x.testBit q):=rH x q;have hsz:=hwr.size
      go_wp2_with (at_builtin;rw[T.out];refine wpList_append_own _ rfl _ _ 73 rfl w.heap.size 4 i0 (.bool false) 1 1 underlying73 hi hz0 hz1 hz2 rfl (by decide) _ _ _ rfl (hown.alloc _) ⟨wr.heap.size,0,none⟩ 1 1 [.bool (x.testBit q)] rfl rfl ?c1 ?c2 ?c3 ?c4 ?c5 ?_)
      case c1=>
        intro j u hj;match j,hj with
        | 0,hj=>simp at hj;subst hj;simp[Addr.add]
      case c2=>intro u hu;simp at hu;subst hu;rfl
      case c3=>unfold maxLen;omega
      case c4=>omega
      case c5=>simp;omega
      intro v' w3 hown3 hgrow _;have hrow:∀k,u5.ownBlock=some k->w.heap.size<=k:=fun k hk=>(hown.lt k hk).1
      have hb3:Below w.heap.size (wr.alloc (.cells #[.bool (x.testBit q)] 4)) w3:=(Below.refl _ _).grown hgrow (by simp;omega) hrow
      have hb4:Below w.heap.size wr w3:=Below.trans ((Below.refl _ _).alloc (by omega) _) hb3;have hw3:=hwr.trans hb4;rw[GD]at hown3
      have HO:Hid (w3.ownsRow w.heap.size 4 1 v' (q+1) (bK (Bit.bits x (q+1)))):=hown3;clear hgrow hown hb3 hb4 hown3 hrow hi hz0 hz1 hz2;go_wp2
      first
        | exact⟨⟨q+1,by omega,by go_num,HO.out,hw3⟩,by simp only[intOf];omega⟩
        | (go_roundw
           case rel=>exact⟨q+1,by omega,by go_num,HO.out,hw3⟩
           case measure=>simp only[intOf];omega)
    . have hqm:q=n:=by omega
      have HO:Hid (wr.ownsRow w.heap.size 4 1 u5 n (bK (Bit.bits x n))):=by
        rw[hqm]at hown;exact hown
      clear hqm hown;go_wp2;go_ret;exact⟨u5,rfl,HO.out,hwr⟩
theorem Eg(aN aW aM:Int)(ao:Option Addr)(ax:List Nat)(ac:Nat)(bN bW bM:Int)(bo:Option Addr)(bx:List Nat)(bc:Nat)(w:World)(hx:Wd w ao ax)(hy:Wd w bo bx)(hl:ax.length<=1048576):
  Qq 166 #[.agg #[.int .i64 aN,.int .i64 aW,.int .i64 aM,.slice ao ax.length ac],.agg #[.int .i64 bN,.int .i64 bW,.int .i64 bM,.slice bo bx.length bc]] w (.bool (decide (aN=bN)&&(decide (aW=bW)&&(decide (aM=bM)&&decide (ax=bx))))):=by
 obtain⟨W,hW⟩:∃W,W=(w.alloc (.cells #[.int .i64 aN,.int .i64 aW,.int .i64 aM,.slice ao ax.length ac] 57)).alloc (.cells #[.int .i64 bN,.int .i64 bW,.int .i64 bM,.slice bo bx.length bc] 57):=⟨_,rfl⟩
 have bZ:Below w.heap.size w W:=by rw[hW];exact(below_alloc w _).alloc (by simp) _
 have B1:=dH hW;have B2:=de hW
 have C1:Hid (∀w0,w0=W->Qq 165 #[.agg #[.int .i64 aM,.slice ao ax.length ac],.agg #[.int .i64 bM,.slice bo bx.length bc]] w0 (.bool (decide (aM=bM)&&decide (ax=bx)))):=fun w0 h=>by subst h;exact lV aM ao ax ac bM bo bx bc w0 (hx.keep bZ) (hy.keep bZ) hl
 generalize (decide (aM=bM)&&decide (ax=bx))=z at *;by_cases h1:aN=bN
 .by_cases h2:aW=bW
  .rw[decide_eq_true h1,decide_eq_true h2];subst h1 h2;go_enter func166,ntmps166;go_wp2_with fail;rw[<-hW];refine mr (C1.out _ rfl) fun w1 hb=>?_;have bw:=bg bZ hb;go_wp2;go_ret
   exact⟨by cases z<;>rfl,bw⟩
  .rw[decide_eq_true h1,decide_eq_false h2];have e2:(aW==bW)=false:=by simpa using h2
   subst h1
   have bw:Below w.heap.size w ((w.alloc (.cells #[.int .i64 aN,.int .i64 aW,.int .i64 aM,.slice ao ax.length ac] 57)).alloc (.cells #[.int .i64 aN,.int .i64 bW,.int .i64 bM,.slice bo bx.length bc] 57)):=(below_alloc w _).alloc (by simp) _
   clear C1 B1 B2 bZ hW W;go_enter func166,ntmps166;go_wp2;go_ret;exact⟨rfl,bw⟩
 .rw[decide_eq_false h1];have e1:(aN==bN)=false:=by simpa using h1
  have bw:Below w.heap.size w ((w.alloc (.cells #[.int .i64 aN,.int .i64 aW,.int .i64 aM,.slice ao ax.length ac] 57)).alloc (.cells #[.int .i64 bN,.int .i64 bW,.int .i64 bM,.slice bo bx.length bc] 57)):=(below_alloc w _).alloc (by simp) _
  clear C1 B1 B2 bZ hW W;go_enter func166,ntmps166;go_wp2;go_ret;exact⟨rfl,bw⟩
theorem sG(aN ak aW aM:Int)(ao:Option Addr)(ax:List Nat)(ac:Nat)(aL:Int)(aq:Option Addr)(ay:List Nat)(ad:Nat)(as_:Option Addr)(au:List Int)(ae:Nat)(at_:Option Addr)(av:List Int)(af:Nat)(bN bk bW bM:Int)(bo:Option Addr)(bx:List Nat)(bc:Nat)(bL:Int)(bq:Option Addr)(b_y:List Nat)(bd:Nat)(bs:Option Addr)(bu:List Int)(be:Nat)(bt:Option Addr)(bv_:List Int)(bf:Nat)(w:World)(hx:Wd w ao ax)(hy:Wd w bo bx)(hl:ax.length<=1048576)(kx:Wd w aq ay)(ky:Wd w bq b_y)(kl:ay.length<=1048576)(s1:Nd w as_ au)(s2:Nd w bs bu)(sl:au.length<=1048576)(t1:Nd w at_ av)(t2:Nd w bt bv_)(tl:av.length<=1048576):
  Qq 115 #[.agg #[.int .i64 aN,.int .i64 ak,.int .i64 aW,.int .i64 aM,.slice ao ax.length ac,.int .i64 aL,.slice aq ay.length ad,.slice as_ au.length ae,.slice at_ av.length af],.agg #[.int .i64 bN,.int .i64 bk,.int .i64 bW,.int .i64 bM,.slice bo bx.length bc,.int .i64 bL,.slice bq b_y.length bd,.slice bs bu.length be,.slice bt bv_.length bf]] w (.bool (decide (aN=bN)&&((decide (ak=bk)&&(decide (aW=bW)&&(decide (aM=bM)&&decide (ax=bx))))&&((decide (aL=bL)&&decide (ay=b_y))&&(decide (au=bu)&&decide (av=bv_)))))):=by
 obtain⟨W,hW⟩:∃W,W=(w.alloc (.cells #[.int .i64 aN,.int .i64 ak,.int .i64 aW,.int .i64 aM,.slice ao ax.length ac,.int .i64 aL,.slice aq ay.length ad,.slice as_ au.length ae,.slice at_ av.length af] 59)).alloc (.cells #[.int .i64 bN,.int .i64 bk,.int .i64 bW,.int .i64 bM,.slice bo bx.length bc,.int .i64 bL,.slice bq b_y.length bd,.slice bs bu.length be,.slice bt bv_.length bf] 59):=⟨_,rfl⟩
 have bZ:Below w.heap.size w W:=by rw[hW];exact(below_alloc w _).alloc (by simp) _
 have B1:=dH hW;have B2:=de hW
 have C1:Hid (∀w0,w0=W->Qq 166 #[.agg #[.int .i64 ak,.int .i64 aW,.int .i64 aM,.slice ao ax.length ac],.agg #[.int .i64 bk,.int .i64 bW,.int .i64 bM,.slice bo bx.length bc]] w0 (.bool (decide (ak=bk)&&(decide (aW=bW)&&(decide (aM=bM)&&decide (ax=bx)))))):=fun w0 h=>by subst h;exact Eg ak aW aM ao ax ac bk bW bM bo bx bc w0 (hx.keep bZ) (hy.keep bZ) hl
 have C2:Hid (Qz w 165 #[.agg #[.int .i64 aL,.slice aq ay.length ad],.agg #[.int .i64 bL,.slice bq b_y.length bd]] (.bool (decide (aL=bL)&&decide (ay=b_y)))):=fun w0 h=>lV aL aq ay ad bL bq b_y bd w0 (kx.keep h) (ky.keep h) kl
 have C3:Hid (Qz w 38 #[.slice as_ au.length ae,.slice bs bu.length be] (.bool (decide (au=bu)))):=fun w0 h=>lW as_ au ae bs bu be w0 (s1.keep h) (s2.keep h) sl
 have C4:Hid (Qz w 38 #[.slice at_ av.length af,.slice bt bv_.length bf] (.bool (decide (av=bv_)))):=fun w0 h=>lW at_ av af bt bv_ bf w0 (t1.keep h) (t2.keep h) tl
 generalize (decide (ak=bk)&&(decide (aW=bW)&&(decide (aM=bM)&&decide (ax=bx))))=z1 at *;generalize (decide (aL=bL)&&decide (ay=b_y))=z2 at *;generalize decide (au=bu)=z3 at *
 generalize decide (av=bv_)=z4 at *;by_cases h1:aN=bN
 .rw[decide_eq_true h1];subst h1;go_enter func115,ntmps115;go_wp2_with fail;rw[<-hW];refine mr (C1.out _ rfl) fun w1 hb=>?_;have bw1:=bg bZ hb;replace B1:=B1.kept hb
  replace B2:=B2.kept hb;clear hb;cases z1 with
  | false=>
   go_wp2;go_ret;exact⟨rfl,bw1⟩
  | true=>
   have c0:=B1.cell 0 rfl;have d0:=B2.cell 0 rfl;have c1:=B1.cell 1 rfl;have d1:=B2.cell 1 rfl;have c2:=B1.cell 2 rfl;have d2:=B2.cell 2 rfl;have c3:=B1.cell 3 rfl;have d3:=B2.cell 3 rfl;have c4:=B1.cell 4 rfl
   have d4:=B2.cell 4 rfl;have c5:=B1.cell 5 rfl;have d5:=B2.cell 5 rfl;have c6:=B1.cell 6 rfl;have d6:=B2.cell 6 rfl;have c7:=B1.cell 7 rfl;have d7:=B2.cell 7 rfl;have c8:=B1.cell 8 rfl;have d8:=B2.cell 8 rfl
   go_wp2_with fail;refine mr (C2.out _ bw1) fun w2 hb=>?_;have bw2:=bg bw1 hb;replace B1:=B1.kept hb;replace B2:=B2.kept hb;clear hb c0 d0 c1 d1 c2 d2 c3 d3 c4 d4 c5 d5 c6 d6 c7 d7 c8 d8
   cases z2 with
   | false=>
    go_wp2;go_ret;exact⟨rfl,bw2⟩
   | true=>
    have c0:=B1.cell 0 rfl;have d0:=B2.cell 0 rfl;have c1:=B1.cell 1 rfl;have d1:=B2.cell 1 rfl;have c2:=B1.cell 2 rfl;have d2:=B2.cell 2 rfl;have c3:=B1.cell 3 rfl;have d3:=B2.cell 3 rfl
    have c4:=B1.cell 4 rfl;have d4:=B2.cell 4 rfl;have c5:=B1.cell 5 rfl;have d5:=B2.cell 5 rfl;have c6:=B1.cell 6 rfl;have d6:=B2.cell 6 rfl;have c7:=B1.cell 7 rfl;have d7:=B2.cell 7 rfl
    have c8:=B1.cell 8 rfl;have d8:=B2.cell 8 rfl;go_wp2_with fail;refine mr (C3.out _ bw2) fun w3 hb=>?_;have bw3:=bg bw2 hb;replace B1:=B1.kept hb;replace B2:=B2.kept hb
    clear hb c0 d0 c1 d1 c2 d2 c3 d3 c4 d4 c5 d5 c6 d6 c7 d7 c8 d8;cases z3 with
    | false=>
     go_wp2;go_ret;exact⟨rfl,bw3⟩
    | true=>
     have c0:=B1.cell 0 rfl;have d0:=B2.cell 0 rfl;have c1:=B1.cell 1 rfl;have d1:=B2.cell 1 rfl;have c2:=B1.cell 2 rfl;have d2:=B2.cell 2 rfl;have c3:=B1.cell 3 rfl;have d3:=B2.cell 3 rfl
     have c4:=B1.cell 4 rfl;have d4:=B2.cell 4 rfl;have c5:=B1.cell 5 rfl;have d5:=B2.cell 5 rfl;have c6:=B1.cell 6 rfl;have d6:=B2.cell 6 rfl;have c7:=B1.cell 7 rfl;have d7:=B2.cell 7 rfl
     have c8:=B1.cell 8 rfl;have d8:=B2.cell 8 rfl;go_wp2_with fail;refine mr (C4.out _ bw3) fun w4 hb=>?_;have bw4:=bg bw3 hb;go_wp2;go_ret;exact⟨by cases z4<;>rfl,bw4⟩
 .rw[decide_eq_false h1];have e1:(aN==bN)=false:=by simpa using h1
  have bw:Below w.heap.size w ((w.alloc (.cells #[.int .i64 aN,.int .i64 ak,.int .i64 aW,.int .i64 aM,.slice ao ax.length ac,.int .i64 aL,.slice aq ay.length ad,.slice as_ au.length ae,.slice at_ av.length af] 59)).alloc (.cells #[.int .i64 bN,.int .i64 bk,.int .i64 bW,.int .i64 bM,.slice bo bx.length bc,.int .i64 bL,.slice bq b_y.length bd,.slice bs bu.length be,.slice bt bv_.length bf] 59)):=(below_alloc w _).alloc (by simp) _
  clear C1 C2 C3 C4 B1 B2 bZ hW W;go_enter func115,ntmps115;go_wp2;go_ret;exact⟨rfl,bw⟩
end Go.Proofs.YtleegaihbgbcjabGreatDoor
namespace Go.Proofs.YtleegaihbgbcjabGreatDoor
open Go.RowKit Num Bn
namespace Ow
theorem En:(prog.info? 126).map (fun i=>(i.zero,i.size,i.bytes))=some (some (.int .u64 0),1,8):=by kernel_rfl
theorem below_alloc(w:World)(o:Obj):Below w.heap.size w (w.alloc o):=(Below.refl _ _).alloc (Nat.le_refl _) _
def gt(xs:List Nat)(i:Nat):Nat:=xs.getD i 0
theorem gt_get(xs:List Nat)(i:Nat)(h:i<xs.length):xs[i]?=some (gt xs i):=by
 unfold gt;rw[List.getD_eq_getElem?_getD,List.getElem?_eq_getElem h];rfl
theorem gt_map(f:Nat->Nat)(n i:Nat)(h:i<n):gt ((List.range n).map f) i=f i:=by
 unfold gt;rw[List.getD_eq_getElem?_getD,List.getElem?_map,List.getElem?_range h];rfl
theorem gt_set(ys:List Nat)(j i v:Nat)(hj:j<ys.length):gt (ys.set j v) i=if j=i then v else gt ys i:=by
 unfold gt;rw[List.getD_eq_getElem?_getD,List.getD_eq_getElem?_getD,List.getElem?_set];by_cases c:j=i
 .subst c;simp[hj]
 .simp[c]
theorem list_ext{xs ys:List Nat}(hl:xs.length=ys.length)(h:∀i,i<xs.length->gt xs i=gt ys i):xs=ys:=by
 refine List.ext_getElem? fun i=>?_;by_cases c:i<xs.length
 .rw[gt_get xs i c,gt_get ys i (by omega),h i c]
 .rw[List.getElem?_eq_none (by omega),List.getElem?_eq_none (by omega)]
def wv(ys:List Nat):List Value:=ys.map fun y:Nat=>Value.int .u64 (y:Int)
theorem length_wv(ys:List Nat):(wv ys).length=ys.length:=by simp[wv]
def Own(w:World)(g:Nat)(ys:List Nat):Prop:=w.heap[g]?=some (.cells (wv ys).toArray 126 (0,0))
theorem own_made{w:World}{base g n:Nat}(h:w.ownsRow base 126 1 (.slice (some ⟨g,0,none⟩) n n) n (madeCells #[.int .u64 0] n).toList):Own w g (List.replicate n 0):=by
 obtain⟨_,h | ⟨g',cap,cur,e,_,hh,_,_,hs,ht⟩⟩:=h
 .simp at h
 .simp only[Value.slice.injEq,Option.some.injEq,Addr.mk.injEq]at e;obtain⟨⟨rfl,_,_⟩,_,rfl⟩:=e;unfold Own;rw[hh]
  have e2:(madeCells #[.int .u64 0] n).toList=wv (List.replicate n 0):=by
   rw[toList_madeCells_one (.int .u64 0) n,wv,List.map_replicate];rfl
  rw[e2]at ht;have e3:cur.toList.take (n*1)=cur.toList:=List.take_of_length_le (by simp;omega);rw[e3]at ht;rw[<-ht]
theorem Own.cell{w:World}{g:Nat}{ys:List Nat}(h:Own w g ys)(j:Nat)(hj:j<ys.length):w.cell? ⟨g,j,none⟩=some (.int .u64 (gt ys j)):=by
 unfold World.cell?;rw[show w.heap[({ block:=g,off:=j,spot:=none }:Addr).block]?=_ from h];simp only[List.getElem?_toArray,wv,List.getElem?_map,gt_get ys j hj];rfl
theorem Own.frozen{w:World}{g:Nat}{ys:List Nat}(h:Own w g ys)(j:Nat):w.frozen? ⟨g,j,none⟩=false:=by
 unfold World.frozen?;rw[show w.heap[({ block:=g,off:=j,spot:=none }:Addr).block]?=_ from h];simp
theorem Own.lt{w:World}{g:Nat}{ys:List Nat}(h:Own w g ys):g<w.heap.size:=(Array.getElem?_eq_some_iff.1 h).1
theorem Own.set{w:World}{g:Nat}{ys:List Nat}(h:Own w g ys)(j v:Nat):Own (w.setCell ⟨g,j,none⟩ (.int .u64 v)) g (ys.set j v):=by
 unfold Own at h⊢;simp only[World.setCell,Array.getElem?_modify];rw[if_pos trivial,h];simp[wv,List.map_set]
theorem Own.drew{w:World}{g:Nat}{ys:List Nat}(h:Own w g ys):Own w.drew g ys:=h
def rowP(n i:Nat):List Nat:=(List.range (n+1)).map (ch i)
def eI(n i j:Nat):List Nat:=(List.range (n+1)).map fun t=>if j<t then ch i t else ch (i-1) t
theorem fM(n i j:Nat):(eI n i j).length=n+1:=by simp[eI]
theorem length_rowP(n i:Nat):(rowP n i).length=n+1:=by simp[rowP]
theorem pi(n i:Nat):eI n i i=rowP n (i-1):=by
 unfold eI rowP;refine List.map_congr_left fun t _=>?_;by_cases c:i<t
 .rw[if_pos c,mB i t c,mB (i-1) t (by omega)]
 .rw[if_neg c]
theorem ph(n i:Nat):eI n i 0=rowP n i:=by
 unfold eI rowP;refine List.map_congr_left fun t _=>?_;by_cases c:0<t
 .rw[if_pos c]
 .obtain rfl:t=0:=by omega
  rw[if_neg c,jf,jf]
theorem jt(n i j t:Nat)(h:t<=n):gt (eI n i j) t=if j<t then ch i t else ch (i-1) t:=gt_map _ _ _ (by omega)
theorem ms(n i t:Nat)(h:t<=n):gt (rowP n i) t=ch i t:=gt_map _ _ _ (by omega)
theorem s_(n i j:Nat)(hi:1<=i)(hj:1<=j)(hn:j<=n):(eI n i j).set j (ch (i-1) j+ch (i-1) (j-1))=eI n i (j-1):=by
 refine list_ext (by rw[List.length_set,fM,fM]) fun t ht=>?_;rw[List.length_set,fM]at ht;rw[gt_set _ _ _ _ (by rw[fM];omega),jt _ _ _ _ (by omega),jt _ _ _ _ (by omega)]
 by_cases c:j=t
 .subst c;obtain⟨a,rfl⟩:∃a,i=a+1:=⟨i-1,by omega⟩;obtain⟨b,rfl⟩:∃b,j=b+1:=⟨j-1,by omega⟩;rw[if_pos rfl,if_pos (by omega),iH,Nat.add_sub_cancel,Nat.add_sub_cancel];omega
 .rw[if_neg c];by_cases d:j<t
  .rw[if_pos d,if_pos (by omega)]
  .rw[if_neg d,if_neg (by omega)]
theorem r9(n:Nat):(List.replicate (n+1) 0).set 0 1=rowP n 0:=by
 refine list_ext (by rw[List.length_set,length_rowP,List.length_replicate]) fun t ht=>?_;rw[List.length_set,List.length_replicate]at ht;rw[gt_set _ _ _ _ (by simp),ms _ _ _ (by omega)];by_cases c:0=t
 .subst c;rw[if_pos rfl,jf]
 .rw[if_neg c,mB 0 t (by omega)];unfold gt;rw[List.getD_eq_getElem?_getD,List.getElem?_replicate];split<;>rfl
end Ow
namespace Ow
theorem zn(n k:Int)(h:n<0\/62<n\/k<0\/n<k)(w:World):
  Qq 161 #[.int .i64 n,.int .i64 k] w (.int .u64 0):=by
 by_cases h1:n<0
 .go_enter func161,ntmps161;go_wp2;go_ret;exact⟨rfl,Below.refl _ _⟩
 by_cases h2:62<n
 .go_enter func161,ntmps161;go_wp2;go_ret;exact⟨rfl,Below.refl _ _⟩
 by_cases h3:k<0
 .go_enter func161,ntmps161;go_wp2;go_ret;exact⟨rfl,Below.refl _ _⟩
 .have h4:n<k:=by omega
  clear h;go_enter func161,ntmps161;go_wp2;go_ret;exact⟨rfl,Below.refl _ _⟩
theorem zt(n k:Nat)(hn:n<=62)(hk:k<=n)(w:World):
  Qq 161 #[.int .i64 n,.int .i64 k] w (.int .u64 (ch n k)):=by
 obtain⟨i0,hi,hz0,hz1,hz2⟩:=info_parts En;have hn2:(n:Int)<=62:=by omega
 have hk2:(k:Int)<=n:=by omega
 go_enter func161,ntmps161;go_wp2_with (at_make;refine wpList_make_full _ rfl _ _ 51 rfl w.heap.size 126 i0 (.int .u64 0) 1 underlying51 hi hz0 hz1 .i64 .i64 _ _ (n+1) rfl rfl rfl rfl ?b2 ?b3 ?b4 ?_)
 case b2=>rw[hz2];omega
 case b3=>unfold maxLen;omega
 case b4=>omega
 intro w1 hown hgr;have hO:Own w1 w.heap.size (List.replicate (n+1) 0):=own_made hown;have hb1:Below w.heap.size w w1:=(Below.refl _ _).grown hgr (Nat.le_refl _) (fun k h=>by cases h);clear hown hgr hi hz0 hz1 hz2
 have c0:=hO.cell 0 (by simp);have f0:=hO.frozen 0;have hO2:=hO.set 0 1;rw[r9]at hO2;have hb2:Below w.heap.size w (w1.setCell ⟨w.heap.size,0,none⟩ (.int .u64 ((1:Nat):Int))):=hb1.setCell (Nat.le_refl _) _
 have hl:(0:Int)<(n:Int)+1:=by omega
 go_wp2;go_loopw [6,7] (fun i j wr=>∃p:Nat,1<=p/\p<=n+1/\i=.int .i64 p/\Own wr w.heap.size (rowP n (p-1))/\Below w.heap.size w wr) (fun i _ _=>n+1-(intOf i).toNat)
 case atStart=>exact⟨1,Nat.le_refl _,by omega,rfl,hO2,hb2⟩
 case round=>
  obtain⟨p,hp1,hp2,rfl,hOr,hwr⟩:=hrel;clear hO hO2 hb1 hb2 c0 f0;by_cases hlt:p<=n
  .have hlt2:(p:Int)<=(n:Int):=by omega
   go_wp2;go_loopw [7] (fun j wz=>∃q:Nat,q<=p/\j=.int .i64 q/\Own wz w.heap.size (eI n p q)/\Below w.heap.size w wz) (fun j _=>(intOf j).toNat)
   case atStart=>exact⟨p,Nat.le_refl _,rfl,by rw[pi];exact hOr,hwr⟩
   case round=>
    obtain⟨q,hq,rfl,hOz,hwz⟩:=hrel;clear hOr hwr;by_cases h0:q=0
    .subst h0;rw[ph]at hOz;have HO:Hid (Own wr w.heap.size (rowP n p)):=hOz;clear hOz;go_wp2;exact⟨⟨p+1,by omega,by omega,by go_num,HO.out,hwz⟩,by simp only[intOf];omega⟩
    .have q0:(0:Int)<(q:Int):=by omega
     have e1:=hOz.cell q (by rw[fM];omega);have e2:=hOz.cell (q-1) (by rw[fM];omega);have fz:=hOz.frozen q;have l1:(q:Int)<(n:Int)+1:=by omega
     have l2:(q:Int)-1<(n:Int)+1:=by omega
     rw[jt _ _ _ _ (by omega),if_neg (by omega)]at e1 e2;have b1:=gB (p-1) q (by omega);have b2:=gB (p-1) (q-1) (by omega);have st:=hOz.set q (ch (p-1) q+ch (p-1) (q-1))
     rw[s_ n p q hp1 (by omega) (by omega)]at st;have HO:Hid (Own (wr.setCell ⟨w.heap.size,q,none⟩ (.int .u64 ((ch (p-1) q+ch (p-1) (q-1):Nat):Int))).drew w.heap.size (eI n p (q-1))):=st
     have HB:Hid (Below w.heap.size w (wr.setCell ⟨w.heap.size,q,none⟩ (.int .u64 ((ch (p-1) q+ch (p-1) (q-1):Nat):Int))).drew):=(hwz.setCell (Nat.le_refl _) _).drew
     have ez:((q:Int)-1).toNat=q-1:=by omega
     have ad:IntKind.u64.wrap ((ch (p-1) q:Int)+(ch (p-1) (q-1):Int))=((ch (p-1) q+ch (p-1) (q-1):Nat):Int):=by rw[IntKind.wrap_u64];omega
     clear st hOz;generalize ch (p-1) q=A at *;generalize ch (p-1) (q-1)=B at *;go_wp2;go_region;go_wp2;exact⟨⟨q-1,by omega,by go_num,HO.out,HB.out⟩,by simp only[intOf];omega⟩
  .obtain rfl:p=n+1:=by omega
   have e1:=hOr.cell k (by rw[length_rowP];omega);rw[Nat.add_sub_cancel,ms _ _ _ hk]at e1;have l1:(k:Int)<(n:Int)+1:=by omega
   obtain⟨Z,hZ⟩:∃Z,Hid (Z=ch n k):=⟨_,rfl⟩;rw[<-hZ.out]at e1;go_wp2;go_ret;rw[<-hZ.out];exact⟨rfl,hwr⟩
theorem m_(n k:Int)(w:World):
  Qq 161 #[.int .i64 n,.int .i64 k] w (.int .u64 (chN n k)):=by
 unfold chN;by_cases h:n<0\/62<n\/k<0\/n<k
 .rw[if_pos h];exact zn n k h w
 .rw[if_neg h];obtain⟨a,rfl⟩:=Int.eq_ofNat_of_zero_le (show 0<=n by omega);obtain⟨b,rfl⟩:=Int.eq_ofNat_of_zero_le (show 0<=k by omega);exact zt a b (by omega) (by omega) w
end Ow
namespace Ow
theorem rwidth_c(n k:Int)(w:World):
  Qq 109 #[.int .i64 n,.int .i64 k] w (.int .i64 (wdN n k)):=by
 have C:Hid (∀w0,Qq 161 #[.int .i64 n,.int .i64 k] w0 (.int .u64 (chN n k))):=fun w0=>m_ n k w0;have b:=vx n k;unfold wdN
 generalize chN n k=c at *;by_cases h0:c=0
 .subst h0;rw[if_pos rfl];go_enter func109,ntmps109;go_wp2_with fail;refine mr (C.out _) fun w1 hb=>?_;go_wp2;go_ret;exact⟨rfl,hb⟩
 .rw[if_neg h0];obtain⟨d,rfl⟩:∃d,c=d+1:=⟨c-1,by omega⟩;rw[Nat.add_sub_cancel]
  have L:Hid (∀w0,Qx 162 #[.int .u64 d] w0 (.int .i64 (Go.bitLen d))):=fun w0=>by
   have:=oX (d:Int) (by omega) (by omega) w0;unfold bI at this;rw[Int.toNat_natCast]at this;exact this
  have c1:(((d+1:Nat):Int)==0)=false:=by simp;omega
  generalize Go.bitLen d=Z at *;go_enter func109,ntmps109;go_wp2_with fail;refine mr (C.out _) fun w1 hb=>?_;have e2:((d+1:Nat):Int)=(d:Int)+1:=by omega
  rw[e2];go_wp2_with fail;refine mr (L.out _) fun w2 h2=>?_;rw[h2];clear h2 w2;go_wp2;go_ret;exact⟨rfl,hb⟩
theorem roffset_c(x:Nat)(n:Int)(hx:x<18446744073709551616)(h0: -9223372036854775808<=n)(h1:n<=9223372036854775807)(w:World):
  Qq 106 #[.int .u64 x,.int .i64 n] w (.tuple #[.int .i64 (gh x n),.int .u64 (ge x n)]):=by
 by_cases hn:n<0
 .rw[show gh x n=0 by unfold gh;rw[if_pos (.inl hn)],show ge x n=0 by unfold ge;rw[if_pos (.inl hn)]];go_enter func106,ntmps106;go_wp2;go_ret2;exact⟨rfl,Below.refl _ _⟩
 by_cases hn2:62<n
 .rw[show gh x n=0 by unfold gh;rw[if_pos (.inr hn2)],show ge x n=0 by unfold ge;rw[if_pos (.inr hn2)]];go_enter func106,ntmps106;go_wp2;go_ret2;exact⟨rfl,Below.refl _ _⟩
 rw[show gh x n=cnt x n.toNat by unfold gh;rw[if_neg (by omega)],show ge x n=off x n.toNat by unfold ge;rw[if_neg (by omega)]];obtain⟨m,rfl⟩:=Int.eq_ofNat_of_zero_le (show 0<=n by omega);rw[Int.toNat_natCast]
 have hm:m<=62:=by omega
 have R:Hid (∀w0,Qx 160 #[.int .u64 x,.int .i64 m] w0 (.int .i64 (cnt x m))):=fun w0=>by
  have:=yW (x:Int) (m:Int) (by omega) (by omega) (by omega) (by omega) w0;unfold dy at this;rw[Int.toNat_natCast,Int.toNat_natCast,Nat.min_eq_left (by omega)]at this;exact this
 have x0:(0:Int)<=(x:Int):=by omega
 have C:Hid (∀w0 (p:Nat),p<m->Qq 161 #[.int .i64 p,.int .i64 (cnt x (p+1))] w0 (.int .u64 (ch p (cnt x (p+1))))):=fun w0 p hp=>by
  have:=m_ p (cnt x (p+1)) w0;rw[mC p _ (by omega)]at this;exact this
 go_enter func106,ntmps106;go_wp2_with fail;refine mr (R.out _) fun w1 hw1=>?_;rw[hw1];clear hw1 w1 R;obtain⟨K,hK⟩:∃K,Hid (K=cnt x m):=⟨_,rfl⟩;rw[<-hK.out];go_wp2
 go_loopw [7,8,9] (fun o l i wr=>∃p O:Nat,p<=m/\i=.int .i64 ((p:Int)-1)/\l=.int .i64 (cnt x p)/\o=.int .u64 O/\O+off x p=off x m/\Below w.heap.size w wr) (fun _ _ i _=>(intOf i+1).toNat)
 case atStart=>exact⟨m,0,Nat.le_refl _,by go_num,by rw[hK.out],rfl,by omega,Below.refl _ _⟩
 case round=>
  obtain⟨p,O,hp,rfl,rfl,rfl,hO,hwr⟩:=hrel;by_cases hp0:p=0
  .subst hp0;have HO:Hid (O=off x m):=hO;clear hO;go_wp2;go_ret2;rw[<-HO.out,<-hK.out];exact⟨rfl,hwr⟩
  .obtain⟨q,rfl⟩:∃q,p=q+1:=⟨p-1,by omega⟩;have e1:((q+1:Nat):Int)-1=(q:Int):=by omega
   rw[e1];have q64:(q:Int)<64:=by omega
   have lt:=nB x m;have l62:=gB m (cnt x m) hm;by_cases hb:x/2^q%2=1
   .have T:((x:Int)/2^q).tmod 2=1:=by rw[jD _ _ x0,Int.toNat_natCast,hb];rfl
    have ec:cnt x (q+1)=cnt x q+1:=by rw[cnt,hb]
    have eo:off x (q+1)=off x q+ch q (cnt x (q+1)):=by rw[off,if_pos hb]
    have D:Hid (∀w0,Qq 161 #[.int .i64 q,.int .i64 (cnt x (q+1))] w0 (.int .u64 (ch q (cnt x (q+1))))):=fun w0=>C.out w0 q (by omega);rw[eo]at hO
    generalize ch q (cnt x (q+1))=Z at *;have HO:Hid (O+Z+off x q=off x m):=by show O+Z+off x q=off x m;omega
    have bO:O+Z<4611686018427387904:=by omega
    obtain⟨c,hc⟩:∃c,Hid (c=cnt x q):=⟨_,rfl⟩;have ec2:((cnt x (q+1):Nat):Int)=(c:Int)+1:=by rw[hc.out,ec];omega
    rw[ec2]at D;rw[ec2];have c64:c<=62:=by rw[hc.out];have:=eM x q;omega
    clear ec eo hO lt l62 C ec2;go_wp2_with fail;refine mr (D.out _) fun w2 hb2=>?_;have hw2:=bg hwr hb2;clear D hb2 hwr;go_wp2
    exact⟨⟨q,O+Z,by omega,by go_num,by rw[<-hc.out],by go_num,HO.out,hw2⟩,by simp only[intOf];omega⟩
   .have T:((x:Int)/2^q).tmod 2=0:=by rw[jD _ _ x0,Int.toNat_natCast,show x/2^q%2=0 by omega];rfl
    have ec:cnt x (q+1)=cnt x q:=by rw[cnt];omega
    have HO:Hid (O+off x q=off x m):=by
     rw[off,if_neg hb]at hO;exact hO
    rw[ec];clear ec hO lt l62 C;go_wp2;exact⟨⟨q,O,by omega,by go_num,rfl,rfl,HO.out,hwr⟩,by simp only[intOf];omega⟩
theorem shl_one(k:Nat)(h:k<64):IntKind.u64.wrap ((2:Int)^k)=((2^k:Nat):Int):=by
 have e:((2:Int)^k)=((2^k:Nat):Int):=by rw[Int.natCast_pow];rfl
 have:=eV k h;rw[e,IntKind.wrap_u64];generalize (2^k:Nat)=Z at *;omega
theorem te(X p:Nat)(h:X%2^(p+1)=0):X|||2^p=X+2^p:=by
 have e:X=2^(p+1)*(X/2^(p+1)):=by
  have:=Nat.div_add_mod X (2^(p+1));omega
 have lt:2^p<2^(p+1):=by rw[Nat.pow_succ];have:=Nat.two_pow_pos p;omega
 rw[e];exact(Nat.two_pow_add_eq_or_of_lt lt _).symm
theorem pE(X p:Nat)(h:X%2^(p+1)=0):X%2^p=0:=by
 have:=tI X p;have:=Nat.two_pow_pos p;omega
theorem tH(X p:Nat)(h:X%2^(p+1)=0):(X+2^p)%2^p=0:=by
 rw[Nat.add_mod_right];exact pE X p h
theorem rblock_c(n k:Int)(o:Nat)(ho:o<18446744073709551616)(w:World):
  Qq 209 #[.int .i64 n,.int .i64 k,.int .u64 o] w (.tuple #[.int .u64 (bkX n k o),.bool (bkB n k o)]):=by
 have C:Hid (∀w0,Qq 161 #[.int .i64 n,.int .i64 k] w0 (.int .u64 (chN n k))):=fun w0=>m_ n k w0;by_cases hc:chN n k<=o
 .rw[show bkX n k o=0 by unfold bkX;rw[if_pos hc],show bkB n k o=false by unfold bkB;simp;omega];have hc2:(chN n k:Int)<=(o:Int):=by omega
  generalize chN n k=Z at *;go_enter func209,ntmps209;go_wp2_with fail;refine mr (C.out _) fun w1 hb=>?_;go_wp2;go_ret2;exact⟨rfl,hb⟩
 .have hin:¬(n<0\/62<n\/k<0\/n<k):=by
   intro h;apply hc;unfold chN;rw[if_pos h];omega
  rw[show bkX n k o=blk n.toNat k.toNat o by unfold bkX;rw[if_neg hc],show bkB n k o=true by unfold bkB;simp;omega];obtain⟨a,rfl⟩:=Int.eq_ofNat_of_zero_le (show 0<=n by omega)
  obtain⟨b,rfl⟩:=Int.eq_ofNat_of_zero_le (show 0<=k by omega);rw[Int.toNat_natCast,Int.toNat_natCast];have ha:a<=62:=by omega
  have hba:b<=a:=by omega
  have hc2:¬((chN a b:Nat):Int)<=(o:Int):=by omega
  clear hin;generalize chN a b=Z at *;go_enter func209,ntmps209;go_wp2_with fail;refine mr (C.out _) fun w1 hb=>?_;clear C;go_wp2
  go_loopw [1,2,8,9,10] (fun kv ov xv i cv wr=>∃p K O X:Nat,p<=a/\K<=62/\O<18446744073709551616/\i=.int .i64 ((p:Int)-1)/\kv=.int .i64 K/\ov=.int .u64 O/\xv=.int .u64 X/\(X+blk p K O=blk a b o/\X%2^p=0)/\Below w.heap.size w wr) (fun _ _ _ i _ _=>(intOf i+1).toNat)
  case atStart=>exact⟨a,b,o,0,Nat.le_refl _,by omega,ho,by go_num,rfl,rfl,rfl,⟨by omega,by simp⟩,hb⟩
  case round=>
   obtain⟨p,K,O,X,hp,hK,hO,rfl,rfl,rfl,rfl,⟨hX,hM⟩,hwr⟩:=hrel
   have bX:X<4611686018427387904:=by
    have:=jC a b o;have:2^a<=2^62:=Nat.pow_le_pow_right (by decide) ha;omega
   by_cases hp0:p=0
   .subst hp0;have HX:Hid (X=blk a b o):=hX;clear hX hM;go_wp2;go_ret2;rw[<-HX.out];exact⟨rfl,hwr⟩
   obtain⟨q,rfl⟩:∃q,p=q+1:=⟨p-1,by omega⟩;have e1:((q+1:Nat):Int)-1=(q:Int):=by omega
   rw[e1];have q64:(q:Int)<64:=by omega
   by_cases hK0:K=0
   .subst hK0;have HX:Hid (X=blk a b o):=by rw[j6]at hX;exact hX
    clear hX hM;go_wp2;go_ret2;rw[<-HX.out];exact⟨rfl,hwr⟩
   have hK1:(0:Int)<(K:Int):=by omega
   have D:Hid (∀w0,Qq 161 #[.int .i64 q,.int .i64 K] w0 (.int .u64 (ch q K))):=fun w0=>by
    have:=m_ q K w0;rw[mC q K (by omega)]at this;exact this
   by_cases hge:ch q K<=O
   .have HX:Hid (X+2^q+blk q (K-1) (O-ch q K)=blk a b o):=by rw[mJ q K O hK0 hge]at hX;show _=_;omega
    have HM:Hid ((X+2^q)%2^q=0):=tH X q hM
    have HR:Hid (bits .or .u64 (X:Int) (IntKind.u64.wrap (2^q))=((X+2^q:Nat):Int)):=by
     show bits .or .u64 (X:Int) (IntKind.u64.wrap (2^q))=((X+2^q:Nat):Int);rw[shl_one q (by omega),u64_or_nat _ _ (by omega) (eV q (by omega)),te X q hM]
    have hge2:((ch q K:Nat):Int)<=(O:Int):=by omega
    clear hX hM;obtain⟨Z2,hZ2⟩:∃Z2,Hid (Z2=ch q K):=⟨_,rfl⟩;rw[<-hZ2.out]at D hge hge2 HX;go_wp2_with fail;refine mr (D.out _) fun w2 hb2=>?_;have hw2:=bg hwr hb2;clear D hb2 hwr
    go_wp2;exact⟨⟨q,K-1,O-Z2,X+2^q,by omega,by omega,by omega,by go_num,by go_num,by go_num,congrArg (Value.int .u64) HR.out,⟨HX.out,HM.out⟩,hw2⟩,by simp only[intOf];omega⟩
   .have HX:Hid (X+blk q K O=blk a b o):=by rw[mH q K O hK0 hge]at hX;exact hX
    have HM:Hid (X%2^q=0):=pE X q hM;have hge2:¬((ch q K:Nat):Int)<=(O:Int):=by omega
    clear hX hM;obtain⟨Z2,hZ2⟩:∃Z2,Hid (Z2=ch q K):=⟨_,rfl⟩;rw[<-hZ2.out]at D hge hge2;go_wp2_with fail;refine mr (D.out _) fun w2 hb2=>?_;have hw2:=bg hwr hb2;clear D hb2 hwr
    go_wp2;exact⟨⟨q,K,O,X,by omega,hK,hO,by go_num,rfl,rfl,rfl,⟨HX.out,HM.out⟩,hw2⟩,by simp only[intOf];omega⟩
end Ow
open Go.RowKit Num Bit Bn
def jF(v:Nat):Int:=IntKind.i64.wrap (v:Int)
theorem qW(v:Nat)(h:v<18446744073709551616):chN 15 (jF v)=chN 15 v:=by
 unfold jF;by_cases c:v<9223372036854775808
 .have e:IntKind.i64.wrap (v:Int)=(v:Int):=by rw[IntKind.wrap_i64];omega
  rw[e]
 .have e:IntKind.i64.wrap (v:Int)=(v:Int)-18446744073709551616:=by rw[IntKind.wrap_i64];omega
  rw[e];unfold chN;rw[if_pos (by omega),if_pos (by omega)]
theorem Hz(v:Nat)(h:v<18446744073709551616):wdN 15 (jF v)=wdN 15 v:=by unfold wdN;rw[qW v h]
theorem H_(v o:Nat)(h:v<18446744073709551616):bkB 15 (jF v) o=bkB 15 v o:=by unfold bkB;rw[qW v h]
theorem H0(v o:Nat)(h:v<18446744073709551616):bkX 15 (jF v) o=bkX 15 v o:=by
 unfold bkX;rw[qW v h];by_cases c:chN 15 v<=o
 .rw[if_pos c,if_pos c]
 .rw[if_neg c,if_neg c]
  have hv:v<=15:=by
   refine Nat.le_of_not_lt fun hc=>c ?_;unfold chN;rw[if_pos (by omega)];omega
  have:jF v=(v:Int):=by unfold jF;rw[IntKind.wrap_i64];omega
  rw[this]
theorem He(b t:Nat):Bit.bits b (t+1)=Bit.bits b t++[b.testBit t]:=by
 unfold Bit.bits;rw[List.range_succ,List.map_append];rfl
theorem GF(l m:List Bool):bK l++bK m=bK (l++m):=by simp[bK]
theorem GE(l:List Bool)(b:Bool):bK l++[.bool b]=bK (l++[b]):=by simp[bK]
theorem qI{w:World}{base n c:Nat}{ao:Option Addr}{l:List Bool}(h:w.ownsRow base 4 1 (.slice ao n c) n (bK l)):Bl w ao l:=by
 intro h0;have hlen:(bK l).length=n*1:=h.1;have hl:l.length=n:=by simp[bK]at hlen;omega
 have hk:=fun k hk=>h.lt k hk;have hc:=fun g hg=>h.cells (g:=g) hg;obtain⟨_,⟨e,e2⟩ | ⟨g,cap,cur,e,_⟩⟩:=h
 .omega
 .simp only[Value.slice.injEq]at e;obtain⟨rfl,_,rfl⟩:=e;refine⟨g,0,rfl,(hk g rfl).2,fun i hi=>?_⟩
  have hu:(bK l)[i]?=some (.bool (bt l i)):=by
   unfold bK bt;rw[List.getElem?_map,List.getD_eq_getElem?_getD,List.getElem?_eq_getElem hi];rfl
  rw[<-hc g rfl i _ hu];unfold Addr.add;split
  .subst_vars;rfl
  .simp
theorem DG(N:Nat)(M:Int)(ys:List Nat):∀l a out r,out.length<=N->fU N M ys l a out=some r->r.length<=N:=by
 intro l;induction l with
 | nil=>intro a out r h e;simp only[fU,Option.some.injEq]at e;subst e;exact h
 | cons k l ih=>
  intro a out r h e;rw[fU]at e;split at e
  .refine ih _ _ r ?_ e;unfold d_;rw[List.length_append,nP];omega
  .cases e
theorem Wd.cellAt{w:World}{ao:Option Addr}{l:List Nat}(h:Wd w ao l)(q:Nat)(hq:q<l.length):∃b off,ao=some ⟨b,off,none⟩/\w.cell? ⟨b,off+q,none⟩=some (.int .u64 (gt l q)):=by
 obtain⟨b,off,e,_,hc⟩:=h (by omega);exact⟨b,off,e,hc q hq⟩
end Go.Proofs.YtleegaihbgbcjabGreatDoor
namespace Go.Proofs.YtleegaihbgbcjabGreatDoor
open Num Bit Bn
theorem tq(l:List Nat)(W:Nat)(hW:1<=W)(hl:∀i,gt l i<2^W)(i:Nat)(hi:i<l.length):numAt W (mkS l W l.length) i=gt l i:=by
 unfold numAt;refine(je W (gt l i) _ fun k=>?_).symm;by_cases c:k<W
 .unfold mkS
  have e1:(i*W+k)/W=i:=by
   rw[Nat.mul_comm,Nat.mul_add_div (by omega),Nat.div_eq_of_lt c];omega
  have e2:(i*W+k)%W=k:=by rw[Nat.mul_comm,Nat.mul_add_mod,Nat.mod_eq_of_lt c]
  have e3:i*W+k<l.length*W:=by
   have:=kI l.length W i hi;omega
  rw[eQ,e1,e2];simp[c,e3]
 .have:gt l i<2^k:=Nat.lt_of_lt_of_le (hl i) (Nat.pow_le_pow_right (by decide) (by omega));rw[Nat.testBit_lt_two_pow this];simp[c]
theorem uA(l:List Nat)(W:Nat)(hW:1<=W)(hW2:W<=64)(hl:l.length*W<=1048576):aP (l.length:Int) (W:Int) ((l.length*W:Nat):Int) (mkS l W l.length)=true:=by
 unfold aP;rw[Bool.and_eq_true,decide_eq_true_eq];refine⟨⟨by omega,by omega,by omega,by rw[Int.natCast_mul]⟩,?_⟩;exact fB _ _ hl
theorem oa(m:Nat)(f:Nat->Bool)(n i:Nat)(h:i<n):gt (cC m f n) i=bcl m f i:=by
 unfold cC gt;rw[List.getD_eq_getElem?_getD,List.getElem?_map,List.getElem?_range h];rfl
theorem oB(m:Nat)(f:Nat->Bool)(n i:Nat):gt (cC m f n) i<2^4:=by
 by_cases c:i<n
 .rw[oa m f n i c];have:=iK m f i;omega
 .rw[i7 _ _ (by rw[dW];omega)];decide
theorem iD(m:Nat)(hm:m<=1048576):nb m<=69906:=by unfold nb;omega
theorem Dx(m:Nat)(f:Nat->Bool):(List.range (nb m)).map (numAt 4 (mkS (cC m f (nb m)) 4 (nb m)))=cC m f (nb m):=by
 unfold cC;refine List.map_congr_left fun i hi=>?_;have hi:=List.mem_range.1 hi;have:=tq (cC m f (nb m)) 4 (by decide) (oB m f (nb m)) i (by rw[dW];exact hi)
 rw[dW,oa m f _ i hi]at this;unfold cC at this;exact this
theorem lj(m:Nat)(f:Nat->Bool):aB (dc m f (nb m))=rowOf (bat m f (nb m)) fun j=>(dc m f (nb m)).getD j false:=by
 unfold aB;rw[iX];rfl
theorem Fa(m:Nat)(f:Nat->Bool):aB ((List.range m).map f)=rowOf m f:=by
 unfold aB;rw[List.length_map,List.length_range];refine di m _ _ fun i hi=>?_;unfold bt;rw[List.getD_eq_getElem?_getD,List.getElem?_map,List.getElem?_range hi];rfl
theorem FV(m:Nat)(f:Nat->Bool)(hm:m<=1048576):
  fU m (bat m f (nb m)) (aB (dc m f (nb m))) ((List.range (nb m)).map (numAt 4 (mkS (cC m f (nb m)) 4 (nb m)))) 0 []=some ((List.range m).map f):=by
 rw[Dx,lj];have h:=FU m f (bat m f (nb m)) _ (sr m f hm) (nb m) 0 (by omega);rw[show min (15*0) m=0 by omega]at h;rw[<-List.range_eq_range']at h;exact h
open Go.RowKit Num Bit Bn
theorem uy:(prog.info? 3).map (fun i=>(i.zero,i.size,i.bytes))=some (some (.int .i64 0),1,8):=by kernel_rfl
def b_(l:List Int):List Value:=l.map fun n:Int=>Value.int .i64 n
def da(m:Nat)(f:Nat->Bool)(G:Nat):List Int:=(List.range G).map fun j=>(bon m f (8*j):Int)
def c_(m:Nat)(f:Nat->Bool)(G:Nat):List Int:=(List.range G).map fun j=>(bat m f (8*j):Int)
theorem ny(m:Nat)(f:Nat->Bool)(G:Nat):b_ (da m f G)++[.int .i64 (bon m f (8*G))]=b_ (da m f (G+1)):=by
 unfold da b_;rw[List.range_succ,List.map_append,List.map_append];rfl
theorem ni(m:Nat)(f:Nat->Bool)(G:Nat):b_ (c_ m f G)++[.int .i64 (bat m f (8*G))]=b_ (c_ m f (G+1)):=by
 unfold c_ b_;rw[List.range_succ,List.map_append,List.map_append];rfl
theorem Hv(m:Nat)(f:Nat->Bool)(p:Nat):wv (cC m f p)++[.int .u64 (bcl m f p)]=wv (cC m f (p+1)):=by
 unfold cC wv;rw[List.range_succ,List.map_append,List.map_append];rfl
theorem GW(m:Nat)(f:Nat->Bool)(p:Nat):bK (dc m f p)++bK (Bit.bits (bof m f p) (dQ m f p))=bK (dc m f (p+1)):=by
 rw[GF,dc]
structure R8 (w wr:World) (m n cap:Nat) (ao:Option Addr) (g:Nat) (ov pv:Value):Prop where
 b1:aa wr w.heap.size [.int .i64 m,.slice ao n cap] 53
 b2:aa wr (w.heap.size+1) [.int .i64 0,.int .i64 0,.int .i64 0,.int .i64 0,.slice none 0 0,.int .i64 0,.slice none 0 0,.slice none 0 0,.slice none 0 0] 59
 bx:aa wr g [.int .i64 m,.int .i64 0,.int .i64 0,.int .i64 0,.slice none 0 0,.int .i64 0,.slice none 0 0,ov,pv] 59
 hg:w.heap.size+1<g
 hw:Below w.heap.size w wr
theorem R8.keep{w wr w':World}{m n cap:Nat}{ao:Option Addr}{g:Nat}{ov pv:Value}(h:R8 w wr m n cap ao g ov pv){base:Nat}(hb:Below base wr w')(hg:g<base):R8 w w' m n cap ao g ov pv:=
 have:=h.hg
 ⟨h.b1.keep hb (by omega),h.b2.keep hb (by omega),h.bx.keep hb hg,h.hg,h.hw.trans (hb.mono (by omega))⟩
theorem R8.ones{w wr:World}{m n cap:Nat}{ao:Option Addr}{g:Nat}{ov pv:Value}(h:R8 w wr m n cap ao g ov pv)(v:Value):R8 w (wr.setCell ⟨g,7,none⟩ v) m n cap ao g v pv:=
 have:=h.hg
 ⟨h.b1.other (by show w.heap.size≠g;omega) v,h.b2.other (by show w.heap.size+1≠g;omega) v,h.bx.set 7 v,h.hg,h.hw.setCell (by show w.heap.size<=g;omega) _⟩
theorem R8.pts{w wr:World}{m n cap:Nat}{ao:Option Addr}{g:Nat}{ov pv:Value}(h:R8 w wr m n cap ao g ov pv)(v:Value):R8 w (wr.setCell ⟨g,8,none⟩ v) m n cap ao g ov v:=
 have:=h.hg
 ⟨h.b1.other (by show w.heap.size≠g;omega) v,h.b2.other (by show w.heap.size+1≠g;omega) v,h.bx.set 8 v,h.hg,h.hw.setCell (by show w.heap.size<=g;omega) _⟩
structure RW (wr:World) (b:Nat) (cv fv ov pv:Value) (p1 p2 G1 G2 m:Nat) (f:Nat->Bool):Prop where
 c:wr.ownsRow b 126 1 cv p1 (wv (cC m f p1))
 o:wr.ownsRow b 4 1 fv (bat m f p2) (bK (dc m f p2))
 n:wr.ownsRow b 3 1 ov G1 (b_ (da m f G1))
 t:wr.ownsRow b 3 1 pv G2 (b_ (c_ m f G2))
 co:Ap.Apart cv fv
 cn:Ap.Apart cv ov
 ct:Ap.Apart cv pv
 on:Ap.Apart fv ov
 ot:Ap.Apart fv pv
 nt:Ap.Apart ov pv
theorem RW.keep{wr w2:World}{b:Nat}{cv fv ov pv:Value}{p1 p2 G1 G2 m:Nat}{f:Nat->Bool}(h:RW wr b cv fv ov pv p1 p2 G1 G2 m f)(hb:Below wr.heap.size wr w2):RW w2 b cv fv ov pv p1 p2 G1 G2 m f:=
 ⟨Ap.owns_below h.c hb,Ap.owns_below h.o hb,Ap.owns_below h.n hb,Ap.owns_below h.t hb,h.co,h.cn,h.ct,h.on,h.ot,h.nt⟩
theorem jk{w:World}{base e n:Nat}{v u:Value}{vs:List Value}{a:Addr}(h:w.ownsRow base e 1 v n vs)(ha:a.block<base):(w.setCell a u).ownsRow base e 1 v n vs:=by
 obtain⟨h1,h2 | ⟨g,cap,cur,e1,e2,hh,r⟩⟩:=h
 .exact⟨h1,.inl h2⟩
 .exact⟨h1,.inr ⟨g,cap,cur,e1,e2,(Below.heap_setCell w a u g (by omega)).trans hh,r⟩⟩
theorem RW.set{wr:World}{b:Nat}{cv fv ov pv:Value}{p1 p2 G1 G2 m:Nat}{f:Nat->Bool}(h:RW wr b cv fv ov pv p1 p2 G1 G2 m f){a:Addr}(ha:a.block<b)(u:Value):RW (wr.setCell a u) b cv fv ov pv p1 p2 G1 G2 m f:=
 ⟨jk h.c ha,jk h.o ha,jk h.n ha,jk h.t ha,h.co,h.cn,h.ct,h.on,h.ot,h.nt⟩
theorem RW.c'{wr w2:World}{b:Nat}{cv fv ov pv:Value}{p1 p2 G1 G2 m:Nat}{f:Nat->Bool}(h:RW wr b cv fv ov pv p1 p2 G1 G2 m f){u:Value}(ho:w2.ownsRow b 126 1 u (p1+1) (wv (cC m f (p1+1))))(hblk:∀k,u.ownBlock=some k->(cv.ownBlock=some k\/k=wr.heap.size)/\k<w2.heap.size)(hkeep:∀k,k<wr.heap.size->cv.ownBlock≠some k->w2.heap[k]?=wr.heap[k]?):RW w2 b u fv ov pv (p1+1) (p2) (G1) (G2) m f:=
 ⟨ho,(Ap.owns_other h.o hkeep h.co.symm),(Ap.owns_other h.n hkeep h.cn.symm),(Ap.owns_other h.t hkeep h.ct.symm),(Ap.apart_new h.o hblk h.co.symm).symm,(Ap.apart_new h.n hblk h.cn.symm).symm,(Ap.apart_new h.t hblk h.ct.symm).symm,h.on,h.ot,h.nt⟩
theorem RW.o'{wr w2:World}{b:Nat}{cv fv ov pv:Value}{p1 p2 G1 G2 m:Nat}{f:Nat->Bool}(h:RW wr b cv fv ov pv p1 p2 G1 G2 m f){u:Value}(ho:w2.ownsRow b 4 1 u (bat m f (p2+1)) (bK (dc m f (p2+1))))(hblk:∀k,u.ownBlock=some k->(fv.ownBlock=some k\/k=wr.heap.size)/\k<w2.heap.size)(hkeep:∀k,k<wr.heap.size->fv.ownBlock≠some k->w2.heap[k]?=wr.heap[k]?):RW w2 b cv u ov pv (p1) (p2+1) (G1) (G2) m f:=
 ⟨(Ap.owns_other h.c hkeep h.co),ho,(Ap.owns_other h.n hkeep h.on.symm),(Ap.owns_other h.t hkeep h.ot.symm),(Ap.apart_new h.c hblk h.co),h.cn,h.ct,(Ap.apart_new h.n hblk h.on.symm).symm,(Ap.apart_new h.t hblk h.ot.symm).symm,h.nt⟩
theorem RW.n'{wr w2:World}{b:Nat}{cv fv ov pv:Value}{p1 p2 G1 G2 m:Nat}{f:Nat->Bool}(h:RW wr b cv fv ov pv p1 p2 G1 G2 m f){u:Value}(ho:w2.ownsRow b 3 1 u (G1+1) (b_ (da m f (G1+1))))(hblk:∀k,u.ownBlock=some k->(ov.ownBlock=some k\/k=wr.heap.size)/\k<w2.heap.size)(hkeep:∀k,k<wr.heap.size->ov.ownBlock≠some k->w2.heap[k]?=wr.heap[k]?):RW w2 b cv fv u pv (p1) (p2) (G1+1) (G2) m f:=
 ⟨(Ap.owns_other h.c hkeep h.cn),(Ap.owns_other h.o hkeep h.on),ho,(Ap.owns_other h.t hkeep h.nt.symm),h.co,(Ap.apart_new h.c hblk h.cn),h.ct,(Ap.apart_new h.o hblk h.on),h.ot,(Ap.apart_new h.t hblk h.nt.symm).symm⟩
theorem RW.t'{wr w2:World}{b:Nat}{cv fv ov pv:Value}{p1 p2 G1 G2 m:Nat}{f:Nat->Bool}(h:RW wr b cv fv ov pv p1 p2 G1 G2 m f){u:Value}(ho:w2.ownsRow b 3 1 u (G2+1) (b_ (c_ m f (G2+1))))(hblk:∀k,u.ownBlock=some k->(pv.ownBlock=some k\/k=wr.heap.size)/\k<w2.heap.size)(hkeep:∀k,k<wr.heap.size->pv.ownBlock≠some k->w2.heap[k]?=wr.heap[k]?):RW w2 b cv fv ov u (p1) (p2) (G1) (G2+1) m f:=
 ⟨(Ap.owns_other h.c hkeep h.ct),(Ap.owns_other h.o hkeep h.ot),(Ap.owns_other h.n hkeep h.nt),ho,h.co,h.cn,(Ap.apart_new h.c hblk h.ct),h.on,(Ap.apart_new h.o hblk h.ot),(Ap.apart_new h.n hblk h.nt)⟩
theorem ry{w:World}{base n c:Nat}{ao:Option Addr}{l:List Nat}(h:w.ownsRow base 126 1 (.slice ao n c) n (wv l)):Wd w ao l:=by
 intro h0;have hlen:(wv l).length=n*1:=h.1;have hl:l.length=n:=by simp[wv]at hlen;omega
 have hk:=fun k hk=>h.lt k hk;have hc:=fun g hg=>h.cells (g:=g) hg;obtain⟨_,⟨e,e2⟩ | ⟨g,cap,cur,e,_⟩⟩:=h
 .omega
 .simp only[Value.slice.injEq]at e;obtain⟨rfl,_,rfl⟩:=e;refine⟨g,0,rfl,(hk g rfl).2,fun i hi=>?_⟩
  have hu:(wv l)[i]?=some (.int .u64 (gt l i)):=by
   unfold wv;rw[List.getElem?_map,gt_get l i hi];rfl
  rw[<-hc g rfl i _ hu];unfold Addr.add;split
  .subst_vars;rfl
  .simp
theorem wU{w w1 w2:World}{b:Nat}{ao:Option Addr}{l:List Nat}(h:Wd w ao l)(hb:∀a,0<l.length->ao=some a->a.block<b)(h1:Below w.heap.size w w1)(h2:Below b w1 w2):Wd w2 ao l:=by
 intro h0;obtain⟨c,off,e,hlt,hc⟩:=h h0;have hcb:=hb _ h0 e;refine⟨c,off,e,?_,fun i hi=>((h2.cell (p:=⟨c,off+i,none⟩) hcb).trans (h1.cell (p:=⟨c,off+i,none⟩) hlt)).trans (hc i hi)⟩;have:=h1.size
 have:=h2.size;omega
theorem oA{base:Nat}{w w':World}(h:Below base w w')(b i:Nat)(v:Value)(hb:base<=b):Below base w (w'.setCell ⟨b,i,none⟩ v):=h.setCell hb _
def rwN(o:Option (List Bool)):Nat:=(o.map List.length).getD 0
def rwX(o:Option (List Bool)):List Nat:=(o.map aB).getD []
theorem FT(l:List Nat)(q:Nat)(h:q<l.length):l.drop q=gt l q::l.drop (q+1):=by
 rw[List.drop_eq_getElem_cons h];congr 1;unfold gt;rw[List.getD_eq_getElem?_getD,List.getElem?_eq_getElem h];rfl
theorem yy(m n V:Nat)(M:Int)(ao:Option Addr)(xs:List Nat)(cap:Nat)(L:Int)(qo:Option Addr)(ys:List Nat)(dap:Nat)(so:Option Addr)(sn sc:Nat)(tO:Option Addr)(tn tc:Nat)(w:World)
  (hm:m<=1048576) (hx:Wd w ao xs) (hf:aA xs) (hik:aP (n:Int) (V:Int) M xs=true) (hy:Wd w qo ys) (hfy:aA ys) (O:Option (List Bool)) (hO:fU m L ys ((List.range n).map (numAt V xs)) 0 []=O):
  Calls prog 190 #[.agg #[.int .i64 m,.int .i64 n,.int .i64 V,.int .i64 M,.slice ao xs.length cap,.int .i64 L,.slice qo ys.length dap,.slice so sn sc,.slice tO tn tc]] w fun e w'=>∃bo bc,e=.returned (.agg #[.int .i64 (rwN O),.slice bo (rwX O).length bc])/\Wd w' bo (rwX O)/\aA (rwX O)/\(rwX O).length<=bc/\Below w.heap.size w w':=by
 obtain⟨a1,a2,a3,a4,a5,a6,a7,a8⟩:=dP n V M xs hik;have hn:n<=1048576:=by omega
 obtain⟨i0,hi,hz0,hz1,hz2⟩:=info_parts Tryz.info4
 obtain⟨W,hW⟩:∃W,W=(w.alloc (.cells #[.int .i64 m,.int .i64 n,.int .i64 V,.int .i64 M,.slice ao xs.length cap,.int .i64 L,.slice qo ys.length dap,.slice so sn sc,.slice tO tn tc] 59)).alloc (.cells #[.int .i64 0,.slice none 0 0] 53):=⟨_,rfl⟩
 have bZ:Below w.heap.size w W:=by rw[hW];exact(below_alloc w _).alloc (by simp) _
 have B1:=dH hW;have B2:=de hW
 have LI:Hid (∀w0,w0=W->Calls prog 207 #[.agg #[.int .i64 n,.int .i64 V,.int .i64 M,.slice ao xs.length cap]] w0 fun e w'=>∃v,e=.returned v/\w'.ownsRow w0.heap.size 126 1 v n (wv ((List.range n).map (numAt V xs)))/\Below w0.heap.size w0 w'):=fun w0 h=>by subst h;exact sk M n V ao xs cap w0 (hx.keep bZ) hf hik
 have lC:((List.range n).map (numAt V xs)).length=n:=by simp
 have fC:∀q,gt ((List.range n).map (numAt V xs)) q<18446744073709551616:=by
  intro q;by_cases c:q<n
  .unfold gt;rw[List.getD_eq_getElem?_getD,List.getElem?_map,List.getElem?_range c];show numAt V xs q<18446744073709551616;unfold numAt;have h1:=fb V (fun k=>bitAt xs (q*V+k))
   have h2:2^V<=2^64:=Nat.pow_le_pow_right (by decide) (by omega);omega
  .rw[i7 _ _ (by rw[lC];omega)];decide
 generalize (List.range n).map (numAt V xs)=CL at *;clear a1 a2 a3 a4 a5 a6 a7 a8 hik;go_enter func190,ntmps190;go_wp2_with fail;rw[<-hW];refine(LI.out _ rfl).mono ?_;rintro e w1 ⟨v1,rfl,own1,hb⟩
 obtain⟨co,cc,rfl,hcc, -⟩:=Ap.owns_shape own1;have hC:=ry own1;have hw1:=bg bZ hb;replace B1:=B1.kept hb;replace B2:=B2.kept hb;obtain⟨b,hbd⟩:∃b,b=w1.heap.size:=⟨_,rfl⟩
 have l1:=B1.lt;have l2:=B2.lt
 have hcb:∀a,0<CL.length->co=some a->a.block<b:=fun a h0 e=>by
  obtain⟨c,off,e2,hlt,_⟩:=hC h0;rw[e2]at e;cases e;show c<b;omega
 rw[<-hbd]at l1 l2;clear hb LI hW bZ W own1;go_wp2
 go_loopw [3,4,6,7,8,9,10,11,12,13] (fun ov av iv_ _ _ _ _ _ _ _ wr=>∃(q A:Nat) (ot:List Bool) (oo:Option Addr) (oc:Nat),q<=n/\iv_=.int .i64 q/\av=.int .i64 A/\A<=62*q/\ov=.slice oo ot.length oc/\ot.length<=m/\wr.ownsRow b 4 1 (.slice oo ot.length oc) ot.length (bK ot)/\Hid (fU m L ys (CL.drop q) A ot=O)/\aa wr w.heap.size [.int .i64 m,.int .i64 n,.int .i64 V,.int .i64 M,.slice ao xs.length cap,.int .i64 L,.slice qo ys.length dap,.slice so sn sc,.slice tO tn tc] 59/\aa wr (w.heap.size+1) [.int .i64 0,.slice none 0 0] 53/\Wd wr co CL/\b<=wr.heap.size/\Below w.heap.size w wr) (fun _ _ iv_ _ _ _ _ _ _ _ _=>n-(intOf iv_).toNat)
 case atStart=>exact⟨0,0,[],none,0,by omega,rfl,rfl,by omega,rfl,by simp,World.ownsRow_nil _ _ _ _,hO,B1,B2,hC,by omega,hw1⟩
 case round=>
  obtain⟨q,A,ot,oo,oc,hq,rfl,rfl,hA,rfl,hol,hown,HO,X1,X2,XC,hbw,hwr⟩:=hrel;clear B1 B2 hC hw1 hO hbd;by_cases hlt:q<n
  .have hlt2:(q:Int)<(n:Int):=by omega
   obtain⟨cb,co2,rfl,ce⟩:=XC.cellAt q (by omega);obtain⟨v,hv⟩:∃v,Hid (v=gt CL q):=⟨_,rfl⟩;have v64:v<18446744073709551616:=by rw[hv.out];exact fC q
   rw[<-hv.out]at ce;obtain⟨K,hK⟩:∃K,Hid (K=jF v):=⟨_,rfl⟩;have eK:IntKind.i64.wrap (v:Int)=K:=hK.out.symm
   have WD:Hid (∀w0,Qq 109 #[.int .i64 15,.int .i64 K] w0 (.int .i64 (wdN 15 v))):=fun w0=>by
    have:=Ow.rwidth_c 15 K w0;rw[hK.out,Hz v v64]at this;rw[hK.out];exact this
   have w62:=wR 15 (v:Int)
   have SL:Hid (Qz w 208 #[.agg #[.int .i64 L,.slice qo ys.length dap],.int .i64 A,.int .i64 (wdN 15 v)] (.tuple #[.int .u64 (slcX L ys A (wdN 15 v)),.int .i64 (slcE L ys A (wdN 15 v))])):=fun w0 h=>sj L qo ys dap A (wdN 15 v) w0 (hy.keep h) hfy (by omega) (by omega) (by omega) (by omega)
   have BK:Hid (∀w0,Qq 209 #[.int .i64 15,.int .i64 K,.int .u64 (slcX L ys A (wdN 15 v))] w0 (.tuple #[.int .u64 (bkX 15 v (slcX L ys A (wdN 15 v))),.bool (bkB 15 v (slcX L ys A (wdN 15 v)))])):=fun w0=>by
    have hs:slcX L ys A (wdN 15 v)<18446744073709551616:=by
     unfold slcX;split
     .have h1:=fb (Int.toNat (wdN 15 v:Int)) (fun k=>bitAt ys (Int.toNat (A:Int)+k));have h2:2^(Int.toNat (wdN 15 v:Int))<=2^62:=Nat.pow_le_pow_right (by decide) (by omega);omega
     .omega
    have:=Ow.rblock_c 15 K (slcX L ys A (wdN 15 v)) hs w0;rw[hK.out,H0 v _ v64,H_ v _ v64]at this;rw[hK.out];exact this
   have HD:Hid ((if slcE L ys A (wdN 15 v)=0/\bkB 15 v (slcX L ys A (wdN 15 v))=true then fU m L ys (CL.drop (q+1)) (A+wdN 15 v) (d_ m ot (bkX 15 v (slcX L ys A (wdN 15 v))))else none)=O):=by
    have:=HO.out;rw[FT CL q (by omega),<-hv.out,fU]at this;exact this
   have bB:bkX 15 v (slcX L ys A (wdN 15 v))<32768:=by
    unfold bkX;split
    .omega
    .have:=jC (15:Int).toNat (v:Int).toNat (slcX L ys A (wdN 15 v));have e:(15:Int).toNat=15:=rfl;rw[e]at this⊢;omega
   generalize bkX 15 v (slcX L ys A (wdN 15 v))=bb at *;generalize bkB 15 v (slcX L ys A (wdN 15 v))=ok at *;generalize slcX L ys A (wdN 15 v)=sx at *;generalize slcE L ys A (wdN 15 v)=se at *
   generalize wdN 15 (v:Int)=wd at *;clear HO;have x0:=X1.cell 0 rfl;have x5:=X1.cell 5 rfl;have x6:=X1.cell 6 rfl;go_wp2_with fail;refine mr (WD.out _) fun wa hb=>?_;replace X1:=X1.kept hb
   replace X2:=X2.kept hb;replace XC:=XC.keep hb;replace hown:=Ap.owns_below hown hb;replace hwr:=bg hwr hb;replace hbw:=Nat.le_trans hbw hb.size;clear hb x0 x5 x6 ce;have x5:=X1.cell 5 rfl
   have x6:=X1.cell 6 rfl;go_wp2_with fail;refine mr (SL.out _ hwr) fun wb hb=>?_;replace X1:=X1.kept hb;replace X2:=X2.kept hb;replace XC:=XC.keep hb;replace hown:=Ap.owns_below hown hb
   replace hwr:=bg hwr hb;replace hbw:=Nat.le_trans hbw hb.size;clear hb x5 x6;go_wp2_with fail;refine mr (BK.out _) fun wc hb=>?_;replace X1:=X1.kept hb;replace X2:=X2.kept hb
   replace XC:=XC.keep hb;replace hown:=Ap.owns_below hown hb;replace hwr:=bg hwr hb;replace hbw:=Nat.le_trans hbw hb.size;clear hb WD SL BK;by_cases hbad:se=0/\ok=true
   .obtain⟨rfl,rfl⟩:=hbad
    have HD2:Hid (fU m L ys (CL.drop (q+1)) (A+wd) (d_ m ot bb)=O):=by
     have:=HD.out;rw[if_pos ⟨rfl,rfl⟩]at this;exact this
    clear HD;go_wp2
    go_loopw [3,13] (fun ov jv wr=>∃(t:Nat) (po:Option Addr) (pc:Nat),t<=15/\jv=.int .i64 t/\ov=.slice po (ot.length+t) pc/\ot.length+t<=m/\wr.ownsRow b 4 1 (.slice po (ot.length+t) pc) (ot.length+t) (bK (ot++Bit.bits bb t))/\aa wr w.heap.size [.int .i64 m,.int .i64 n,.int .i64 V,.int .i64 M,.slice ao xs.length cap,.int .i64 L,.slice qo ys.length dap,.slice so sn sc,.slice tO tn tc] 59/\aa wr (w.heap.size+1) [.int .i64 0,.slice none 0 0] 53/\Wd wr (some ⟨cb,co2,none⟩) CL/\b<=wr.heap.size/\Below w.heap.size w wr) (fun _ jv _=>15-(intOf jv).toNat)
    case atStart=>exact⟨0,oo,oc,by omega,rfl,rfl,hol,by rw[show ot++Bit.bits bb 0=ot by simp[Bit.bits]];exact hown,X1,X2,XC,hbw,hwr⟩
    case round=>
     obtain⟨t,po,pc,ht,rfl,rfl,htl,hown2,Y1,Y2,YC,hbw2,hwr2⟩:=hrel;clear X1 X2 XC hown hwr hbw;have y0:=Y1.cell 0 rfl;by_cases hgo:t<15/\ot.length+t<m
     .obtain⟨g1,g2⟩:=hgo;have g3:((ot.length+t:Nat):Int)<(m:Int):=by omega
      have t64:(t:Int)<64:=by omega
      have bb0:(0:Int)<=(bb:Int):=by omega
      have T:Hid ((((bb:Int)/2^t).tmod 2==1)=bb.testBit t):=rH bb t
      go_wp2_with (at_builtin;rw[T.out];refine Ap.wpList_append_u rfl _ _ 73 rfl b 4 i0 (.bool false) 1 underlying73 hi hz0 hz1 hz2 rfl _ (ot.length+t) (bK (ot++Bit.bits bb t)) rfl (hown2.alloc _) (some ⟨wr.heap.size,0,none⟩) 1 1 [.bool (bb.testBit t)] rfl rfl ?e1 ?e2 ?e3 ?e4 ?e5 ?_)
      case e1=>exact fun _=>⟨_,rfl,fun j u hj=>by
       match j,hj with
       | 0,hj=>simp at hj;subst hj;simp[Addr.add]⟩
      case e2=>intro u hu;simp at hu;subst hu;rfl
      case e3=>unfold maxLen;omega
      case e4=>omega
      case e5=>simp;omega
      intro po2 pc2 w4 own4 hle4 hB4;rw[GE,List.append_assoc,<-He]at own4;have hA4:=below_alloc wr (.cells #[.bool (bb.testBit t)] 4);have Y1':=(Y1.kept hA4).keep hB4 l1
      have Y2':=(Y2.kept hA4).keep hB4 l2;have hw4:=(bg hwr2 hA4).trans (hB4.mono (by omega));have YC':=wU YC hcb hA4 hB4
      have hs4:b<=w4.heap.size:=by
       have h1:=hB4.size;simp at h1;omega
      have HOW:Hid (w4.ownsRow b 4 1 (.slice po2 (ot.length+t+1) pc2) (ot.length+t+1) (bK (ot++Bit.bits bb (t+1)))):=own4;clear own4 hown2 Y1 Y2 YC hwr2 hbw2 hA4 hB4 y0;go_wp2
      exact⟨⟨t+1,po2,pc2,by omega,by go_num,rfl,by omega,HOW.out,Y1',Y2',YC',hs4,hw4⟩,by simp only[intOf];omega⟩
     .have et:t=min 15 (m-ot.length):=by omega
      have eb:d_ m ot bb=ot++Bit.bits bb t:=by unfold d_;rw[<-et]
      have el:(d_ m ot bb).length=ot.length+t:=by rw[eb,List.length_append,nP]
      have HOW:Hid (wr.ownsRow b 4 1 (.slice po (d_ m ot bb).length pc) (d_ m ot bb).length (bK (d_ m ot bb))):=by
       show wr.ownsRow b 4 1 (.slice po (d_ m ot bb).length pc) (d_ m ot bb).length (bK (d_ m ot bb));rw[el,eb];exact hown2
      have EL:Hid ((d_ m ot bb).length=ot.length+t):=el;have hA2:A+wd<=62*(q+1):=by omega
      clear hown2 eb el et;by_cases g1:t<15
      .have g2:¬((ot.length+t:Nat):Int)<(m:Int):=by omega
       clear hgo;go_wp2;exact⟨⟨q+1,A+wd,d_ m ot bb,po,pc,by omega,by go_num,by go_num,hA2,by rw[EL.out],by rw[EL.out];exact htl,HOW.out,HD2,Y1,Y2,YC,hbw2,hwr2⟩,by simp only[intOf];omega⟩
      .have g2:¬(t:Int)<15:=by omega
       clear hgo;go_wp2;exact⟨⟨q+1,A+wd,d_ m ot bb,po,pc,by omega,by go_num,by go_num,hA2,by rw[EL.out],by rw[EL.out];exact htl,HOW.out,HD2,Y1,Y2,YC,hbw2,hwr2⟩,by simp only[intOf];omega⟩
   .have HN:Hid (O=none):=by
     have:=HD.out;rw[if_neg hbad]at this;exact this.symm
    have y0:=X2.cell 0 rfl;have y1:=X2.cell 1 rfl;have f0:=X2.frozen 0;have f1:=X2.frozen 1;have hC2:=(X2.set 0 (.int .i64 0)).set 1 (.slice none 0 0)
    have HB:=oA (oA hwr (w.heap.size+1) 0 (.int .i64 0) (Nat.le_succ _)) (w.heap.size+1) 1 (.slice none 0 0) (Nat.le_succ _);have k0:=hC2.cell 0 rfl;have k1:=hC2.cell 1 rfl;by_cases s0:se=0
    .have o0:ok=false:=by cases ok<;>simp_all
     subst s0 o0;clear hbad HD;go_wp2
     exact bodyPost_ret (v:=.agg #[.int .i64 0,.slice none 0 0]) (by simp[results,Tryz.results190,go_sem,k0,k1]) rfl ⟨none,0,by rw[HN.out];rfl,by rw[HN.out];exact cK _ _,by rw[HN.out];exact fun i=>by unfold gt;simp[rwX],by rw[HN.out];exact Nat.le_refl _,HB⟩
    .have s1:(se != 0)=true:=by simp[s0]
     clear hbad HD;go_wp2
     exact bodyPost_ret (v:=.agg #[.int .i64 0,.slice none 0 0]) (by simp[results,Tryz.results190,go_sem,k0,k1]) rfl ⟨none,0,by rw[HN.out];rfl,by rw[HN.out];exact cK _ _,by rw[HN.out];exact fun i=>by unfold gt;simp[rwX],by rw[HN.out];exact Nat.le_refl _,HB⟩
  .obtain rfl:q=n:=by omega
   have hlt2:¬(q:Int)<(q:Int):=by omega
   have ON:O=some ot:=by
    have:=HO.out;rw[List.drop_eq_nil_of_le (by omega)]at this;exact this.symm
   have FR:Hid (∀w0:World,Bl w0 oo ot->Calls prog 33 #[.slice oo ot.length oc] w0 fun e w'=>∃g,e=.returned (.tuple #[.agg #[.int .i64 ot.length,.slice (some ⟨g,0,none⟩) (aB ot).length (aB ot).length],.int .i64 0])/\w0.heap.size<=g/\Own w' g (aB ot)/\Below w0.heap.size w0 w'):=fun w0 h=>by
    refine(ks oo ot oc _ w0 h (by omega) rfl).mono ?_;rintro e w' ⟨g,rfl,hg,hOw,hb⟩;rw[li]at hOw;have e5:(aB ot).length=(ot.length+63)/64:=cP _ _;exact⟨g,by rw[e5],hg,hOw,hb⟩
   have HBl:=qI hown;have hfit:aA (aB ot):=cY _ _;obtain⟨Z,hZ⟩:∃Z,Hid (Z=aB ot):=⟨_,rfl⟩
   have EN:Hid (rwN O=ot.length/\rwX O=Z):=by
    show _/\_;rw[ON,hZ.out];exact⟨rfl,rfl⟩
   rw[<-hZ.out]at FR hfit;clear ON HO;clear hown;go_wp2_with fail;refine(FR.out _ HBl).mono ?_;rintro e w2 ⟨g,rfl,hg,hOw,hb⟩;replace X2:=X2.kept hb;replace hwr:=bg hwr hb;have l3:=X2.lt
   have bA:=below_alloc w2 (.cells #[.int .i64 ot.length,.slice (some ⟨g,0,none⟩) Z.length Z.length] 53);replace X2:=X2.kept bA;replace hwr:=bg hwr bA;have hOw2:=hOw.keep bA;have y0:=X2.cell 0 rfl
   have y1:=X2.cell 1 rfl;have f0:=X2.frozen 0;have f1:=X2.frozen 1;have hC2:=(X2.set 0 (.int .i64 ot.length)).set 1 (.slice (some ⟨g,0,none⟩) Z.length Z.length)
   have HB:=oA (oA hwr (w.heap.size+1) 0 (.int .i64 ot.length) (Nat.le_succ _)) (w.heap.size+1) 1 (.slice (some ⟨g,0,none⟩) Z.length Z.length) (Nat.le_succ _);have ng:g≠w.heap.size+1:=by omega
   have HW:=((hOw2.set_other (a:=⟨w.heap.size+1,0,none⟩) ng (.int .i64 ot.length)).set_other (a:=⟨w.heap.size+1,1,none⟩) ng (.slice (some ⟨g,0,none⟩) Z.length Z.length)).wd;have k0:=hC2.cell 0 rfl
   have k1:=hC2.cell 1 rfl;clear hb FR HBl bA l3 l1 l2 hg hbw;go_wp2
   exact bodyPost_ret (v:=.agg #[.int .i64 ot.length,.slice (some ⟨g,0,none⟩) Z.length Z.length]) (by simp[results,Tryz.results190,go_sem,k0,k1]) rfl ⟨some ⟨g,0,none⟩,Z.length,by rw[EN.out.1,EN.out.2],by rw[EN.out.2];exact HW,by rw[EN.out.2];exact hfit,by rw[EN.out.2];exact Nat.le_refl _,HB⟩
def gN(m:Nat):Nat:=(max 1 (nb m)+7)/8
def rC(m:Nat)(f:Nat->Bool):List Nat:=mkS (cC m f (nb m)) 4 (nb m)
def rO(m:Nat)(f:Nat->Bool):List Nat:=aB (dc m f (nb m))
def rS(m:Nat)(f:Nat->Bool):List Int:=da m f (gN m)
def rT(m:Nat)(f:Nat->Bool):List Int:=c_ m f (gN m)
structure RO (base:Nat) (w:World) (C O:List Nat) (S T:List Int) (bo:Option Addr) (bc:Nat) (qo:Option Addr) (qc:Nat) (so:Option Addr) (sc:Nat) (tO:Option Addr) (tc:Nat):Prop where
 c:Wd w bo C
 cl:C.length<=bc
 o:Wd w qo O
 ol:O.length<=qc
 s:Nd w so S
 sl:S.length<=sc
 t:Nd w tO T
 tl:T.length<=tc
 sn:Fr base so
 tn:Fr base tO
theorem RO.keep{base:Nat}{w w':World}{C O:List Nat}{S T:List Int}{bo:Option Addr}{bc:Nat}{qo:Option Addr}{qc:Nat}{so:Option Addr}{sc:Nat}{tO:Option Addr}{tc:Nat}(h:RO base w C O S T bo bc qo qc so sc tO tc)(hb:Below w.heap.size w w'):RO base w' C O S T bo bc qo qc so sc tO tc:=
 ⟨h.c.keep hb,h.cl,h.o.keep hb,h.ol,h.s.keep hb,h.sl,h.t.keep hb,h.tl,h.sn,h.tn⟩
theorem jT(m:Nat)(f:Nat->Bool)(G:Nat):(da m f G).length=G:=by simp[da]
theorem jS(m:Nat)(f:Nat->Bool)(G:Nat):(c_ m f G).length=G:=by simp[c_]
theorem jm{w:World}{base n c:Nat}{ao:Option Addr}{l:List Int}(h:w.ownsRow base 3 1 (.slice ao n c) n (b_ l)):Nd w ao l:=by
 intro h0;have hlen:(b_ l).length=n*1:=h.1;have hl:l.length=n:=by simp[b_]at hlen;omega
 have hk:=fun k hk=>h.lt k hk;have hc:=fun g hg=>h.cells (g:=g) hg;obtain⟨_,⟨e,e2⟩ | ⟨g,cap,cur,e,_⟩⟩:=h
 .omega
 .simp only[Value.slice.injEq]at e;obtain⟨rfl,_,rfl⟩:=e;refine⟨g,0,rfl,(hk g rfl).2,fun i hi=>?_⟩
  have hu:(b_ l)[i]?=some (.int .i64 (gi l i)):=by
   unfold b_ gi;rw[List.getElem?_map,List.getD_eq_getElem?_getD,List.getElem?_eq_getElem hi];rfl
  rw[<-hc g rfl i _ hu];unfold Addr.add;split
  .subst_vars;rfl
  .simp
theorem Er(m:Nat)(f:Nat->Bool)(hm:m<=1048576):cd 4 (cC m f (nb m))=0:=by
 unfold cd;rw[if_neg];have:=iD m hm;rw[dW];rintro(h | h | h | h)
 .omega
 .omega
 .omega
 .refine h fun j hj=>?_;have h4:=oB m f (nb m) j;have:=io (gt (cC m f (nb m)) j) 4 h4;unfold bI;rw[Int.toNat_natCast];omega
theorem kW:(prog.info? 59).map (·.size)=some 9:=by kernel_rfl
theorem Bc{w:World}{base e n c:Nat}{ao:Option Addr}{vs:List Value}(h:w.ownsRow base e 1 (.slice ao n c) n vs):0<n->∃ad,ao=some ad/\∀j u,vs[j]?=some u->w.cell? (ad.add j)=some u:=by
 intro h0;have hc:=fun g hg=>h.cells (g:=g) hg;obtain⟨_,⟨e1,e2⟩ | ⟨g,cap,cur,e1,_⟩⟩:=h
 .omega
 .simp only[Value.slice.injEq]at e1;obtain⟨rfl,_,rfl⟩:=e1;exact⟨_,rfl,fun j u hj=>hc g rfl j u hj⟩
theorem Hid.mk8{p:Prop}(h:p):Hid p:=h
theorem sH(m:Nat)(ao:Option Addr)(xs:List Nat)(cap:Nat)(w:World)(hx:Wd w ao xs)(hf:aA xs)(hk:am (m:Int) xs=true):
  Calls prog 62 #[.agg #[.int .i64 m,.slice ao xs.length cap]] w fun e w'=>∃bo bc qo qc so sc tO tc,e=.returned (.tuple #[.agg #[.int .i64 m,.int .i64 (nb m),.int .i64 4,.int .i64 ((nb m:Int)*4),.slice bo (rC m (bitAt xs)).length bc,.int .i64 (bat m (bitAt xs) (nb m)),.slice qo (rO m (bitAt xs)).length qc,.slice so (rS m (bitAt xs)).length sc,.slice tO (rT m (bitAt xs)).length tc],.int .i64 0])/\RO w.heap.size w' (rC m (bitAt xs)) (rO m (bitAt xs)) (rS m (bitAt xs)) (rT m (bitAt xs)) bo bc qo qc so sc tO tc/\Below w.heap.size w w':=by
 obtain⟨h0,h1,h2, -⟩:=bj (m:Int) xs hk;have hm:m<=1048576:=by omega
 have hnb:=iD m hm;have hnbd:Hid (nb m=(m+14)/15):=rfl;obtain⟨i3,hi3,za3,zb3,zc3⟩:=info_parts uy;obtain⟨i4,hi4,za4,zb4,zc4⟩:=info_parts Tryz.info4
 obtain⟨i6,hi6,za6,zb6,zc6⟩:=info_parts Tryz.info126
 obtain⟨W,hW⟩:∃W,W=(w.alloc (.cells #[.int .i64 m,.slice ao xs.length cap] 53)).alloc (.cells #[.int .i64 0,.int .i64 0,.int .i64 0,.int .i64 0,.slice none 0 0,.int .i64 0,.slice none 0 0,.slice none 0 0,.slice none 0 0] 59):=⟨_,rfl⟩
 have bZ:Below w.heap.size w W:=by rw[hW];exact(below_alloc w _).alloc (by simp) _
 have B1:=dH hW;have B2:=de hW
 have C1:Hid (∀w0,w0=W->Qq 64 #[.agg #[.int .i64 m,.slice ao xs.length cap]] w0 (.bool true)):=fun w0 h=>by
  subst h;have:=du m ao xs cap w0 (hx.keep bZ) hf;rw[hk]at this;exact this
 obtain⟨f,hff⟩:∃f,Hid (f=bitAt xs):=⟨_,rfl⟩;rw[<-hff.out];go_enter func62,ntmps62;go_wp2_with fail;rw[<-hW];refine mr (C1.out _ rfl) fun w1 hb=>?_;have bw1:=bg bZ hb
 replace B1:=B1.kept hb;replace B2:=B2.kept hb;have z2:=B2.lt;clear hb C1 hW bZ W h2;have r0:=B1.cell 0 rfl;have r1:=B1.cell 1 rfl;go_wp2
 have hR0:R8 w (w1.alloc (.cells #[.int .i64 m,.int .i64 0,.int .i64 0,.int .i64 0,.slice none 0 0,.int .i64 0,.slice none 0 0,.slice none 0 0,.slice none 0 0] 59)) m xs.length cap ao w1.heap.size (.slice none 0 0) (.slice none 0 0):=⟨B1.alloc _,B2.alloc _,aa.new w1 _ _,z2,bw1.alloc (by omega) _⟩
 clear B1 B2 r0 r1 bw1;generalize w1.alloc (.cells #[.int .i64 m,.int .i64 0,.int .i64 0,.int .i64 0,.slice none 0 0,.int .i64 0,.slice none 0 0,.slice none 0 0,.slice none 0 0] 59)=w2 at *
 generalize w1.heap.size=g at *;clear w1
 go_loopw [5,6,7,8,9,10] (fun cv fv sv iv_ _ _ wr=>∃(q p:Nat) (ov pv:Value),q<=max 1 (nb m)/\Hid (p=min q (nb m))/\iv_=.int .i64 q/\sv=.int .i64 (bon m f p)/\R8 w wr m xs.length cap ao g ov pv/\RW wr (g+1) cv fv ov pv p p ((q+7)/8) ((q+7)/8) m f) (fun _ _ _ iv_ _ _ _=>max 1 (nb m)-(intOf iv_).toNat)
 case atStart=>exact⟨0,0,.slice none 0 0,.slice none 0 0,by omega,by show 0=min 0 (nb m);omega,rfl,rfl,hR0,⟨World.ownsRow_nil _ _ _ _,World.ownsRow_nil _ _ _ _,World.ownsRow_nil _ _ _ _,World.ownsRow_nil _ _ _ _,Ap.apart_nil _,Ap.apart_nil _,Ap.apart_nil _,Ap.apart_nil _,Ap.apart_nil _,Ap.apart_nil _⟩⟩
 case round=>
  obtain⟨q,p,ov,pv,hq,hp,rfl,rfl,hR,hG⟩:=hrel;clear hR0;have bonl:=qE m f p;have batl:=jE m f p;have r0:=hR.b1.cell 0 rfl;obtain⟨oo,oc,rfl,hoc, -⟩:=Ap.owns_shape hG.n
  obtain⟨po,pc,rfl,hpc, -⟩:=Ap.owns_shape hG.t;obtain⟨fo,fc,rfl,hfc, -⟩:=Ap.owns_shape hG.o;obtain⟨co,cc,rfl,hcc, -⟩:=Ap.owns_shape hG.c
  have mu:IntKind.i64.wrap ((q:Int)*15)=(q:Int)*15:=by rw[IntKind.wrap_i64];omega
  go_upto_region 8 with fail
  go_cut [26] (fun t26 wx=>t26=.bool (decide (q=0\/15*q<m))/\wx=wr)
  case first=>
   by_cases hq0:q=0
   .subst hq0;go_wp2;go_meet;exact⟨by simp,rfl⟩
   .have hq1:((q:Int)==0)=false:=by simp;omega
    by_cases hl:15*q<m
    .have hl2:(q:Int)*15<(m:Int):=by omega
     go_wp2;go_meet;exact⟨by simp[hl],rfl⟩
    .have hl2:¬(q:Int)*15<(m:Int):=by omega
     go_wp2;go_meet;exact⟨by simp[hl,hq0],rfl⟩
  case rest=>
  obtain⟨rfl,rfl⟩:=hcut;by_cases hgo:q=0\/15*q<m
  .have hpq:p=q:=by have:=hp.out;have:=hnbd.out;omega
   subst hpq;clear hp;have dgo:decide (p=0\/15*p<m)=true:=decide_eq_true hgo;rw[dgo];clear dgo;go_upto_if 31 with fail
   go_cut [] (fun wx=>∃ov pv,R8 w wx m xs.length cap ao g ov pv/\RW wx (g+1) (.slice co p cc) (.slice fo (bat m f p) fc) ov pv p p ((p+8)/8) ((p+8)/8) m f)
   case first=>
    by_cases h8:p%8=0
    .have h8i:(p:Int).tmod 8=0:=by rw[Int.tmod_eq_emod_of_nonneg (by omega)];omega
     have h8b:((p:Int)%8==0)=true:=by simp;omega
     obtain⟨G,eG⟩:∃G,G=(p+7)/8:=⟨_,rfl⟩;rw[<-eG]at hR hG hoc hpc;have eG2:Hid ((p+8)/8=G+1):=by show(p+8)/8=G+1;omega
     have eG3:p=8*G:=by omega
     have hV1:Hid (b_ (da m f G)++[.int .i64 ((bon m f p:Nat):Int)]=b_ (da m f (G+1))):=by show _=_;rw[eG3,ny]
     have hV2:Hid (b_ (c_ m f G)++[.int .i64 ((bat m f p:Nat):Int)]=b_ (c_ m f (G+1))):=by show _=_;rw[eG3,ni]
     have lG:G<=8739:=by omega
     clear eG3 hgo;have HE:Hid (G=(p+7)/8):=eG;clear eG h8;go_wp2;refine bn [12,14] (fun w'=>R8 w w' m xs.length cap ao g (.slice oo G oc) (.slice po G pc)) (by kernel_rfl) ?_
     have hS:R8 w wc.drew m xs.length cap ao g (.slice oo G oc) (.slice po G pc):=⟨hR.b1,hR.b2,hR.bx,hR.hg,hR.hw.drew⟩
     have hG0:RW wc.drew (g+1) (.slice co p cc) (.slice fo (bat m f p) fc) (.slice oo G oc) (.slice po G pc) p p G G m f:=⟨hG.c,hG.o,hG.n,hG.t,hG.co,hG.cn,hG.ct,hG.on,hG.ot,hG.nt⟩;clear hR hG r0
     generalize wc.drew=wd at *;refine az.takeW 0 (v:=?vv1) rfl (by kernel_rfl) (by kernel_rfl) (by kernel_rfl) (fun _ _ _ h=>h) ?hy1 (by rfl) ?rest1
     case hy1=>
      intro w0;go_simp;try with_reducible rfl
     try simp only[Act.put,ah,aj,ai]
     refine az.takeW 2 (v:=?vv2) rfl (by kernel_rfl) (by kernel_rfl) (by kernel_rfl) (fun _ _ _ h=>h) ?hy2 (by rfl) ?rest2
     case hy2=>
      intro w0;go_simp;try with_reducible rfl
     try simp only[Act.put,ah,aj,ai]
     refine az.takeW 5 (v:=?vv3) rfl (by kernel_rfl) (by kernel_rfl) (by kernel_rfl) (fun _ _ _ h=>h) ?hy3 (by rfl) ?rest3
     case hy3=>
      intro w0;go_simp;try with_reducible rfl
     try simp only[Act.put,ah,aj,ai]
     refine az.takeW 7 (v:=?vv4) rfl (by kernel_rfl) (by kernel_rfl) (by kernel_rfl) (fun _ _ _ h=>h) ?hy4 (by rfl) ?rest4
     case hy4=>
      intro w0;go_simp;try with_reducible rfl
     try simp only[Act.put,ah,aj,ai]
     refine az.takeW 8 (v:=?vv5) rfl (by kernel_rfl) (by kernel_rfl) (by kernel_rfl) (fun _ _ _ h=>h) ?hy5 (by rfl) ?rest5
     case hy5=>
      intro w0;go_simp;try with_reducible rfl
     try simp only[Act.put,ah,aj,ai]
     refine aF 1 hS rfl (fun w0 h0=>by have c7:=h0.bx.cell 7 rfl;go_simp;try with_reducible rfl) ?_;refine aF 6 hS rfl (fun w0 h0=>by have c8:=h0.bx.cell 8 rfl;go_simp;try with_reducible rfl) ?_
     refine az.two 3 9 (by kernel_rfl) rfl rfl ?_ ?_
     .intro K hK;go_simp;have bA8:=below_alloc wd (.cells #[.int .i64 ((bon m f p:Nat):Int)] 3)
      have S8:R8 w (wd.alloc (.cells #[.int .i64 ((bon m f p:Nat):Int)] 3)) m xs.length cap ao g (.slice oo G oc) (.slice po G pc):=hS.keep bA8 hS.bx.lt;have G8:=hG0.keep bA8
      have c8:aa (wd.alloc (.cells #[.int .i64 ((bon m f p:Nat):Int)] 3)) wd.heap.size [.int .i64 ((bon m f p:Nat):Int)] 3:=aa.new wd _ _;refine hK.out _ _ (fun _=>S8) ?_;clear hK K
      try simp only[Act.put,ah,aj,ai]
      generalize hx8:(wd.alloc (.cells #[.int .i64 ((bon m f p:Nat):Int)] 3))=X8 at *;refine az.two 4 9 (by kernel_rfl) rfl rfl ?_ ?_
      .intro K hK
       refine Ap.step_append_u (by rfl) _ _ _ (by rfl) (g+1) 3 i3 (.int .i64 0) 8 underlying25 hi3 za3 zb3 zc3 rfl (.slice oo G oc) G (b_ (da m f G)) (by rfl) G8.n (some ⟨wd.heap.size,0,none⟩) 1 1 [.int .i64 ((bon m f p:Nat):Int)] (by rfl) rfl ?c1_9 ?c2_9 ?c3_9 ?c4_9 ?c5_9 ?c6_9
       case c1_9=>exact fun _=>⟨_,rfl,fun j u hj=>by
        match j,hj with
        | 0,hj=>simp at hj;subst hj;exact c8.cell 0 rfl⟩
       case c2_9=>intro u hu;simp at hu;subst hu;rfl
       case c3_9=>unfold maxLen;omega
       case c4_9=>omega
       case c5_9=>exact S8.bx.lt
       intro so9 sc9 Y9 own9 hle9 hB9 hblk9 hkeep9 hsz9;have S9:=S8.keep hB9 (Nat.lt_succ_self _);rw[hV1.out]at own9;have G9:=G8.n' own9 hblk9 hkeep9;refine hK.out _ _ (fun _=>S9) ?_;clear hK K
       try simp only[Act.put,ah,aj,ai]
       refine az.takeW 11 (v:=?vv10) rfl (by kernel_rfl) (by kernel_rfl) (by kernel_rfl) (fun _ _ _ h=>h) ?hy10 (by rfl) ?rest10
       case hy10=>
        intro w0;go_simp;try with_reducible rfl
       try simp only[Act.put,ah,aj,ai]
       refine aO 9 ?_;intro K hK;go_simp;have bA11:=below_alloc Y9 (.cells #[.int .i64 ((bat m f p:Nat):Int)] 3)
       have S11:R8 w (Y9.alloc (.cells #[.int .i64 ((bat m f p:Nat):Int)] 3)) m xs.length cap ao g (.slice oo G oc) (.slice po G pc):=S9.keep bA11 S9.bx.lt;have G11:=G9.keep bA11
       have c11:aa (Y9.alloc (.cells #[.int .i64 ((bat m f p:Nat):Int)] 3)) Y9.heap.size [.int .i64 ((bat m f p:Nat):Int)] 3:=aa.new Y9 _ _
       have n11:Value.ownBlock (.slice so9 (G+1) sc9)≠some Y9.heap.size:=fun h=>Nat.lt_irrefl _ (G9.n.lt _ h).2;refine hK.out _ _ (fun _=>S11) ?_;clear hK K;try simp only[Act.put,ah,aj,ai]
       generalize hx11:(Y9.alloc (.cells #[.int .i64 ((bat m f p:Nat):Int)] 3))=X11 at *;refine aO 10 ?_;intro K hK
       refine Ap.step_append_u (by rfl) _ _ _ (by rfl) (g+1) 3 i3 (.int .i64 0) 8 underlying25 hi3 za3 zb3 zc3 rfl (.slice po G pc) G (b_ (c_ m f G)) (by rfl) G11.t (some ⟨Y9.heap.size,0,none⟩) 1 1 [.int .i64 ((bat m f p:Nat):Int)] (by rfl) rfl ?c1_12 ?c2_12 ?c3_12 ?c4_12 ?c5_12 ?c6_12
       case c1_12=>exact fun _=>⟨_,rfl,fun j u hj=>by
        match j,hj with
        | 0,hj=>simp at hj;subst hj;exact c11.cell 0 rfl⟩
       case c2_12=>intro u hu;simp at hu;subst hu;rfl
       case c3_12=>unfold maxLen;omega
       case c4_12=>omega
       case c5_12=>exact S11.bx.lt
       intro so12 sc12 Y12 own12 hle12 hB12 hblk12 hkeep12 hsz12;have S12:=S11.keep hB12 (Nat.lt_succ_self _);rw[hV2.out]at own12;have G12:=G11.t' own12 hblk12 hkeep12;refine hK.out _ _ (fun _=>S12) ?_;clear hK K
       try simp only[Act.put,ah,aj,ai]
       refine aO 12 ?_;intro K hK;have x13:=S12.bx.cell 7 rfl;have y13:=S12.bx.frozen 7;go_simp;refine hK.out _ _ (fun h=>absurd (by decide) h) ?_;clear hK K;try simp only[Act.put,ah,aj,ai]
       have S13:=S12.ones (.slice so9 (G+1) sc9);have G13:=G12.set (a:=⟨g,7,none⟩) (Nat.lt_succ_self _) (.slice so9 (G+1) sc9)
       refine az.takeW 13 (v:=?vv14) rfl (by kernel_rfl) (by kernel_rfl) (by kernel_rfl) (fun _ _ _ h=>h) ?hy14 (by rfl) ?rest14
       case hy14=>
        intro w0;go_simp;try with_reducible rfl
       try simp only[Act.put,ah,aj,ai]
       refine aO 14 ?_;intro K hK;have x15:=S13.bx.cell 8 rfl;have y15:=S13.bx.frozen 8;go_simp;refine hK.out _ _ (fun h=>absurd (by decide) h) ?_;clear hK K;try simp only[Act.put,ah,aj,ai]
       have S15:=S13.pts (.slice so12 (G+1) sc12);have G15:=G13.set (a:=⟨g,8,none⟩) (Nat.lt_succ_self _) (.slice so12 (G+1) sc12);refine az.done (by kernel_rfl) ?_ _;go_wp2_with fail;go_meet
       exact⟨_,_,S15,by rw[eG2.out];exact G15⟩
      .intro K hK;go_simp;have bA16:=below_alloc X8 (.cells #[.int .i64 ((bat m f p:Nat):Int)] 3)
       have S16:R8 w (X8.alloc (.cells #[.int .i64 ((bat m f p:Nat):Int)] 3)) m xs.length cap ao g (.slice oo G oc) (.slice po G pc):=S8.keep bA16 S8.bx.lt;have G16:=G8.keep bA16
       have c16:aa (X8.alloc (.cells #[.int .i64 ((bat m f p:Nat):Int)] 3)) X8.heap.size [.int .i64 ((bat m f p:Nat):Int)] 3:=aa.new X8 _ _
       have n16:Value.ownBlock (.slice oo G oc)≠some X8.heap.size:=fun h=>Nat.lt_irrefl _ (G8.n.lt _ h).2
       have d16:aa (X8.alloc (.cells #[.int .i64 ((bat m f p:Nat):Int)] 3)) wd.heap.size [.int .i64 ((bon m f p:Nat):Int)] 3:=c8.kept bA16;refine hK.out _ _ (fun _=>S16) ?_;clear hK K
       try simp only[Act.put,ah,aj,ai]
       generalize hx16:(X8.alloc (.cells #[.int .i64 ((bat m f p:Nat):Int)] 3))=X16 at *;refine aO 4 ?_;intro K hK
       refine Ap.step_append_u (by rfl) _ _ _ (by rfl) (g+1) 3 i3 (.int .i64 0) 8 underlying25 hi3 za3 zb3 zc3 rfl (.slice oo G oc) G (b_ (da m f G)) (by rfl) G16.n (some ⟨wd.heap.size,0,none⟩) 1 1 [.int .i64 ((bon m f p:Nat):Int)] (by rfl) rfl ?c1_17 ?c2_17 ?c3_17 ?c4_17 ?c5_17 ?c6_17
       case c1_17=>exact fun _=>⟨_,rfl,fun j u hj=>by
        match j,hj with
        | 0,hj=>simp at hj;subst hj;exact d16.cell 0 rfl⟩
       case c2_17=>intro u hu;simp at hu;subst hu;rfl
       case c3_17=>unfold maxLen;omega
       case c4_17=>omega
       case c5_17=>exact S16.bx.lt
       intro so17 sc17 Y17 own17 hle17 hB17 hblk17 hkeep17 hsz17;have S17:=S16.keep hB17 (Nat.lt_succ_self _);rw[hV1.out]at own17;have G17:=G16.n' own17 hblk17 hkeep17
       have d17:aa Y17 X8.heap.size [.int .i64 ((bat m f p:Nat):Int)] 3:=(hkeep17 _ c16.lt n16).trans c16;refine hK.out _ _ (fun _=>S17) ?_;clear hK K;try simp only[Act.put,ah,aj,ai]
       refine az.takeW 11 (v:=?vv18) rfl (by kernel_rfl) (by kernel_rfl) (by kernel_rfl) (fun _ _ _ h=>h) ?hy18 (by rfl) ?rest18
       case hy18=>
        intro w0;go_simp;try with_reducible rfl
       try simp only[Act.put,ah,aj,ai]
       refine aO 10 ?_;intro K hK
       refine Ap.step_append_u (by rfl) _ _ _ (by rfl) (g+1) 3 i3 (.int .i64 0) 8 underlying25 hi3 za3 zb3 zc3 rfl (.slice po G pc) G (b_ (c_ m f G)) (by rfl) G17.t (some ⟨X8.heap.size,0,none⟩) 1 1 [.int .i64 ((bat m f p:Nat):Int)] (by rfl) rfl ?c1_19 ?c2_19 ?c3_19 ?c4_19 ?c5_19 ?c6_19
       case c1_19=>exact fun _=>⟨_,rfl,fun j u hj=>by
        match j,hj with
        | 0,hj=>simp at hj;subst hj;exact d17.cell 0 rfl⟩
       case c2_19=>intro u hu;simp at hu;subst hu;rfl
       case c3_19=>unfold maxLen;omega
       case c4_19=>omega
       case c5_19=>exact S17.bx.lt
       intro so19 sc19 Y19 own19 hle19 hB19 hblk19 hkeep19 hsz19;have S19:=S17.keep hB19 (Nat.lt_succ_self _);rw[hV2.out]at own19;have G19:=G17.t' own19 hblk19 hkeep19;refine hK.out _ _ (fun _=>S19) ?_;clear hK K
       try simp only[Act.put,ah,aj,ai]
       refine aO 12 ?_;intro K hK;have x20:=S19.bx.cell 7 rfl;have y20:=S19.bx.frozen 7;go_simp;refine hK.out _ _ (fun h=>absurd (by decide) h) ?_;clear hK K;try simp only[Act.put,ah,aj,ai]
       have S20:=S19.ones (.slice so17 (G+1) sc17);have G20:=G19.set (a:=⟨g,7,none⟩) (Nat.lt_succ_self _) (.slice so17 (G+1) sc17)
       refine az.takeW 13 (v:=?vv21) rfl (by kernel_rfl) (by kernel_rfl) (by kernel_rfl) (fun _ _ _ h=>h) ?hy21 (by rfl) ?rest21
       case hy21=>
        intro w0;go_simp;try with_reducible rfl
       try simp only[Act.put,ah,aj,ai]
       refine aO 14 ?_;intro K hK;have x22:=S20.bx.cell 8 rfl;have y22:=S20.bx.frozen 8;go_simp;refine hK.out _ _ (fun h=>absurd (by decide) h) ?_;clear hK K;try simp only[Act.put,ah,aj,ai]
       have S22:=S20.pts (.slice so19 (G+1) sc19);have G22:=G20.set (a:=⟨g,8,none⟩) (Nat.lt_succ_self _) (.slice so19 (G+1) sc19);refine az.done (by kernel_rfl) ?_ _;go_wp2_with fail;go_meet
       exact⟨_,_,S22,by rw[eG2.out];exact G22⟩
     .intro K hK;go_simp;have bA23:=below_alloc wd (.cells #[.int .i64 ((bat m f p:Nat):Int)] 3)
      have S23:R8 w (wd.alloc (.cells #[.int .i64 ((bat m f p:Nat):Int)] 3)) m xs.length cap ao g (.slice oo G oc) (.slice po G pc):=hS.keep bA23 hS.bx.lt;have G23:=hG0.keep bA23
      have c23:aa (wd.alloc (.cells #[.int .i64 ((bat m f p:Nat):Int)] 3)) wd.heap.size [.int .i64 ((bat m f p:Nat):Int)] 3:=aa.new wd _ _
      have n23:Value.ownBlock (.slice oo G oc)≠some wd.heap.size:=fun h=>Nat.lt_irrefl _ (hG0.n.lt _ h).2;refine hK.out _ _ (fun _=>S23) ?_;clear hK K;try simp only[Act.put,ah,aj,ai]
      generalize hx23:(wd.alloc (.cells #[.int .i64 ((bat m f p:Nat):Int)] 3))=X23 at *;refine aO 3 ?_;intro K hK;go_simp;have bA24:=below_alloc X23 (.cells #[.int .i64 ((bon m f p:Nat):Int)] 3)
      have S24:R8 w (X23.alloc (.cells #[.int .i64 ((bon m f p:Nat):Int)] 3)) m xs.length cap ao g (.slice oo G oc) (.slice po G pc):=S23.keep bA24 S23.bx.lt;have G24:=G23.keep bA24
      have c24:aa (X23.alloc (.cells #[.int .i64 ((bon m f p:Nat):Int)] 3)) X23.heap.size [.int .i64 ((bon m f p:Nat):Int)] 3:=aa.new X23 _ _
      have d24:aa (X23.alloc (.cells #[.int .i64 ((bon m f p:Nat):Int)] 3)) wd.heap.size [.int .i64 ((bat m f p:Nat):Int)] 3:=c23.kept bA24;refine hK.out _ _ (fun _=>S24) ?_;clear hK K
      try simp only[Act.put,ah,aj,ai]
      generalize hx24:(X23.alloc (.cells #[.int .i64 ((bon m f p:Nat):Int)] 3))=X24 at *;refine aO 4 ?_;intro K hK
      refine Ap.step_append_u (by rfl) _ _ _ (by rfl) (g+1) 3 i3 (.int .i64 0) 8 underlying25 hi3 za3 zb3 zc3 rfl (.slice oo G oc) G (b_ (da m f G)) (by rfl) G24.n (some ⟨X23.heap.size,0,none⟩) 1 1 [.int .i64 ((bon m f p:Nat):Int)] (by rfl) rfl ?c1_25 ?c2_25 ?c3_25 ?c4_25 ?c5_25 ?c6_25
      case c1_25=>exact fun _=>⟨_,rfl,fun j u hj=>by
       match j,hj with
       | 0,hj=>simp at hj;subst hj;exact c24.cell 0 rfl⟩
      case c2_25=>intro u hu;simp at hu;subst hu;rfl
      case c3_25=>unfold maxLen;omega
      case c4_25=>omega
      case c5_25=>exact S24.bx.lt
      intro so25 sc25 Y25 own25 hle25 hB25 hblk25 hkeep25 hsz25;have S25:=S24.keep hB25 (Nat.lt_succ_self _);rw[hV1.out]at own25;have G25:=G24.n' own25 hblk25 hkeep25
      have d25:aa Y25 wd.heap.size [.int .i64 ((bat m f p:Nat):Int)] 3:=(hkeep25 _ d24.lt n23).trans d24;refine hK.out _ _ (fun _=>S25) ?_;clear hK K;try simp only[Act.put,ah,aj,ai]
      refine az.takeW 11 (v:=?vv26) rfl (by kernel_rfl) (by kernel_rfl) (by kernel_rfl) (fun _ _ _ h=>h) ?hy26 (by rfl) ?rest26
      case hy26=>
       intro w0;go_simp;try with_reducible rfl
      try simp only[Act.put,ah,aj,ai]
      refine aO 10 ?_;intro K hK
      refine Ap.step_append_u (by rfl) _ _ _ (by rfl) (g+1) 3 i3 (.int .i64 0) 8 underlying25 hi3 za3 zb3 zc3 rfl (.slice po G pc) G (b_ (c_ m f G)) (by rfl) G25.t (some ⟨wd.heap.size,0,none⟩) 1 1 [.int .i64 ((bat m f p:Nat):Int)] (by rfl) rfl ?c1_27 ?c2_27 ?c3_27 ?c4_27 ?c5_27 ?c6_27
      case c1_27=>exact fun _=>⟨_,rfl,fun j u hj=>by
       match j,hj with
       | 0,hj=>simp at hj;subst hj;exact d25.cell 0 rfl⟩
      case c2_27=>intro u hu;simp at hu;subst hu;rfl
      case c3_27=>unfold maxLen;omega
      case c4_27=>omega
      case c5_27=>exact S25.bx.lt
      intro so27 sc27 Y27 own27 hle27 hB27 hblk27 hkeep27 hsz27;have S27:=S25.keep hB27 (Nat.lt_succ_self _);rw[hV2.out]at own27;have G27:=G25.t' own27 hblk27 hkeep27;refine hK.out _ _ (fun _=>S27) ?_;clear hK K
      try simp only[Act.put,ah,aj,ai]
      refine aO 12 ?_;intro K hK;have x28:=S27.bx.cell 7 rfl;have y28:=S27.bx.frozen 7;go_simp;refine hK.out _ _ (fun h=>absurd (by decide) h) ?_;clear hK K;try simp only[Act.put,ah,aj,ai]
      have S28:=S27.ones (.slice so25 (G+1) sc25);have G28:=G27.set (a:=⟨g,7,none⟩) (Nat.lt_succ_self _) (.slice so25 (G+1) sc25)
      refine az.takeW 13 (v:=?vv29) rfl (by kernel_rfl) (by kernel_rfl) (by kernel_rfl) (fun _ _ _ h=>h) ?hy29 (by rfl) ?rest29
      case hy29=>
       intro w0;go_simp;try with_reducible rfl
      try simp only[Act.put,ah,aj,ai]
      refine aO 14 ?_;intro K hK;have x30:=S28.bx.cell 8 rfl;have y30:=S28.bx.frozen 8;go_simp;refine hK.out _ _ (fun h=>absurd (by decide) h) ?_;clear hK K;try simp only[Act.put,ah,aj,ai]
      have S30:=S28.pts (.slice so27 (G+1) sc27);have G30:=G28.set (a:=⟨g,8,none⟩) (Nat.lt_succ_self _) (.slice so27 (G+1) sc27);refine az.done (by kernel_rfl) ?_ _;go_wp2_with fail;go_meet
      exact⟨_,_,S30,by rw[eG2.out];exact G30⟩
    .have h8b:((p:Int)%8==0)=false:=by simp;omega
     have eG2:(p+8)/8=(p+7)/8:=by omega
     have HE:=Hid.mk8 eG2;clear eG2;go_wp2;go_meet;exact⟨_,_,hR,by rw[HE.out];exact hG⟩
   case rest=>
    obtain⟨ov,pv,hR1,hG1⟩:=hcut;clear hR hG r0;have r0:=hR1.b1.cell 0 rfl;have r1:=hR1.b1.cell 1 rfl;by_cases hin:15*p<m
    .have hin2:(p:Int)*15<(m:Int):=by omega
     obtain⟨X,hX⟩:∃X,Hid (X=blv m f p):=⟨_,rfl⟩;obtain⟨C,hC⟩:∃C,Hid (C=bcl m f p):=⟨_,rfl⟩;obtain⟨O,hO⟩:∃O,Hid (O=bof m f p):=⟨_,rfl⟩;obtain⟨D,hD⟩:∃D,Hid (D=dQ m f p):=⟨_,rfl⟩
     have bX:X<32768:=by rw[hX.out];exact ow m f p
     have bC:C<=15:=by rw[hC.out];exact iK m f p
     have bD:D<=15:=by rw[hD.out];exact qC m f p
     have bO:O<32768:=by
      rw[hO.out];have h:=mG m f p;have h2:=qC m f p;have:2^dQ m f p<=2^15:=Nat.pow_le_pow_right (by decide) h2;omega
     have BK:Hid (Qz w 107 #[.agg #[.int .i64 m,.slice ao xs.length cap],.int .i64 ((p:Int)*15)] (.int .u64 X)):=fun w0 h=>by
      have:=zS m ao xs cap (15*p) w0 (hx.keep h) hk (by omega);rw[show(((15*p:Nat)):Int)=(p:Int)*15 by omega]at this;rw[hX.out,hff.out];exact this
     have OF:Hid (∀w0,Qq 106 #[.int .u64 X,.int .i64 15] w0 (.tuple #[.int .i64 C,.int .u64 O])):=fun w0=>by
      have:=Ow.roffset_c X 15 (by omega) (by decide) (by decide) w0;rw[show gh X 15=C by rw[hC.out,hX.out];rfl,show ge X 15=O by rw[hO.out,hX.out];rfl]at this;exact this
     have WD:Hid (∀w0,Qq 109 #[.int .i64 15,.int .i64 C] w0 (.int .i64 D)):=fun w0=>by
      have:=Ow.rwidth_c 15 C w0;rw[mP C bC,show kwd C=D by rw[hD.out,hC.out];rfl]at this;exact this
     have LW:Hid (∀w0,Calls prog 108 #[.int .u64 O,.int .i64 D] w0 fun e w'=>∃v,e=.returned v/\w'.ownsRow w0.heap.size 4 1 v D (bK (Bit.bits O D))/\Below w0.heap.size w0 w'):=fun w0=>Do O D (by omega) (by omega) w0
     go_wp2_with fail;refine mr (BK.out _ hR1.hw) fun w3 hb3=>?_;have hR3:=hR1.keep hb3 hR1.bx.lt;have hG3:=hG1.keep hb3;clear hR1 hG1 hb3 BK r0 r1;go_wp2_with fail;refine mr (OF.out _) fun w4 hb4=>?_;have hR4:=hR3.keep hb4 hR3.bx.lt;have hG4:=hG3.keep hb4;clear hR3 hG3 hb4 OF w3;have bA:=below_alloc w4 (.cells #[.int .u64 C] 126);have hR5:=hR4.keep bA hR4.bx.lt;have hG5:=hG4.keep bA
     have g5:=hR5.bx.lt;have src5:(w4.alloc (.cells #[.int .u64 C] 126)).cell? ⟨w4.heap.size,0,none⟩=some (.int .u64 C):=(aa.new w4 [.int .u64 C] 126).cell 0 rfl;clear hR4 hG4 bA
     go_wp2_with (at_builtin;refine Ap.wpList_append_x rfl _ _ 51 rfl (g+1) 126 i6 (.int .u64 0) 8 underlying51 hi6 za6 zb6 zc6 rfl (.slice co p cc) p (wv (cC m f p)) rfl hG5.c (some ⟨w4.heap.size,0,none⟩) 1 1 [.int .u64 C] rfl rfl ?d1 ?d2 ?d3 ?d4 ?d5 ?_)
     case d1=>exact fun _=>⟨_,rfl,fun j u hj=>by
      match j,hj with
      | 0,hj=>simp at hj;subst hj;exact src5⟩
     case d2=>intro u hu;simp at hu;subst hu;rfl
     case d3=>unfold maxLen;omega
     case d4=>omega
     case d5=>exact g5
     intro co6 cc6 w6 own6 hle6 hB6 hblk6 hkeep6 hsz6;have hV6:Hid (wv (cC m f p)++[.int .u64 C]=wv (cC m f (p+1))):=by show _=_;rw[hC.out,Hv]
     rw[hV6.out]at own6;have s4:(w4.alloc (.cells #[.int .u64 C] 126)).heap.size=w4.heap.size+1:=by simp
     have hG6:=hG5.c' own6 (by rw[s4];exact hblk6) (by rw[s4];exact hkeep6);clear s4;have hR6:=hR5.keep hB6 (Nat.lt_succ_self _);clear hR5 hG5 g5 src5 own6 hB6 hblk6 hkeep6 hsz6 hV6;go_wp2_with fail
     refine mr (WD.out _) fun w7 hb7=>?_;have hR7:=hR6.keep hb7 hR6.bx.lt;have hG7:=hG6.keep hb7;clear hR6 hG6 hb7 WD w6;go_wp2_with fail;refine(LW.out _).mono ?_;rintro e w8 ⟨v8,rfl,own8,hb8⟩
     have hR8:=hR7.keep hb8 hR7.bx.lt;have hG8:=hG7.keep hb8;obtain⟨lo,lc,rfl, -, -⟩:=Ap.owns_shape own8;have src8:=Bc own8;have g8:=hR8.bx.lt;clear hR7 hG7 hb8 LW own8 w7
     go_wp2_with (at_builtin;refine Ap.wpList_append_x rfl _ _ 73 rfl (g+1) 4 i4 (.bool false) 1 underlying73 hi4 za4 zb4 zc4 rfl (.slice fo (bat m f p) fc) (bat m f p) (bK (dc m f p)) rfl hG8.o lo D lc (bK (Bit.bits O D)) rfl ?f0 ?f1 ?f2 ?f3 ?f4 ?f5 ?_)
     case f0=>simp[bK,nP]
     case f1=>exact src8
     case f2=>intro u hu;simp only[bK,List.mem_map]at hu;obtain⟨b,_,rfl⟩:=hu;rfl
     case f3=>unfold maxLen;omega
     case f4=>omega
     case f5=>exact g8
     intro fo9 fc9 w9 own9 hle9 hB9 hblk9 hkeep9 hsz9;have hV9:Hid (bK (dc m f p)++bK (Bit.bits O D)=bK (dc m f (p+1))):=by show _=_;rw[hO.out,hD.out,GW]
     have hV10:Hid (bat m f p+D=bat m f (p+1)):=by show _=_;rw[hD.out];rfl
     have hV11:Hid (bon m f p+C=bon m f (p+1)):=by show _=_;rw[hC.out];rfl
     rw[hV9.out,hV10.out]at own9;rw[hV10.out]at hblk9;rw[hV10.out];have hG9:=hG8.o' own9 hblk9 hkeep9;have hR9:=hR8.keep hB9 (Nat.lt_succ_self _);clear hR8 hG8 g8 src8 own9 hB9 hblk9 hkeep9 hsz9 w8 hV9 hle9 hle6
     have HG:=Hid.mk8 hG9;clear hG9;go_wp2;refine⟨⟨p+1,p+1,ov,pv,?_,?_,?_,?_,hR9,HG.out⟩,?_⟩
     .have:=hnbd.out;omega
     .show p+1=min (p+1) (nb m);have:=hnbd.out;omega
     .go_num
     .rw[<-hV11.out];go_num
     .simp only[intOf];have:=hnbd.out;omega
    .have hin2:¬(p:Int)*15<(m:Int):=by omega
     have p0:p=0:=by omega
     have m0:Hid (m=0):=by show m=0;omega
     subst p0;have HG:=Hid.mk8 hG1;clear hG1;go_wp2;refine⟨⟨1,0,ov,pv,by omega,?_,rfl,rfl,hR1,HG.out⟩,?_⟩
     .show 0=min 1 (nb m);have:=hnbd.out;have:=m0.out;omega
     .simp only[intOf];omega
  .have dgo:decide (q=0\/15*q<m)=false:=decide_eq_false hgo;rw[dgo];have eq1:q=max 1 (nb m):=by have:=hnbd.out;omega
   have ep:Hid (p=nb m):=by show p=nb m;have:=hp.out;omega
   have eg:Hid ((q+7)/8=gN m):=by show(q+7)/8=gN m;unfold gN;rw[eq1]
   rw[eg.out]at hG hoc hpc hR;have hp2:p<=69906:=by rw[ep.out];exact hnb
   obtain⟨n8,hn8⟩:∃n8,Hid (n8=gN m):=⟨_,rfl⟩;rw[<-hn8.out]at hG hoc hpc hR;obtain⟨A,hA⟩:∃A,Hid (A=bat m f p):=⟨_,rfl⟩;have hA2:A<=908778:=by rw[hA.out];omega
   rw[<-hA.out];have HC:=ry hG.c;have HB:=qI hG.o
   have fitC:aA (cC m f p):=fun i=>by
    have:=oB m f p i;omega
   have MK:Hid (∀w0,Wd w0 co (cC m f p)->Calls prog 110 #[.int .i64 4,.slice co p cc] w0 fun e w'=>∃bo dap,e=.returned (.tuple #[.agg #[.int .i64 p,.int .i64 4,.int .i64 ((p:Int)*4),.slice bo (rC m f).length dap],.int .i64 0])/\mO w0 w' bo (rC m f) dap):=fun w0 h=>by
    have h3:=oV 4 co (cC m f p) cc w0 h fitC (by rw[dW];omega);have e0:cd 4 (cC m f p)=0:=by rw[ep.out];exact Er m f hm
    have e1:gY 4 (cC m f p)=(p:Int):=by unfold gY;rw[if_pos e0,dW]
    have e2:gW 4 (cC m f p)=4:=by unfold gW;rw[if_pos e0]
    have e3:g_ 4 (cC m f p)=(p:Int)*4:=by unfold g_;rw[if_pos e0,dW]
    have e4:fR 4 (cC m f p)=rC m f:=by unfold fR rC;rw[if_pos e0,dW,ep.out];rfl
    rw[e0,e1,e2,e3,e4,dW]at h3;exact h3
   have FR:Hid (∀w0:World,Bl w0 fo (dc m f p)->Calls prog 33 #[.slice fo A fc] w0 fun e w'=>∃g,e=.returned (.tuple #[.agg #[.int .i64 A,.slice (some ⟨g,0,none⟩) (rO m f).length (rO m f).length],.int .i64 0])/\w0.heap.size<=g/\Own w' g (rO m f)/\Below w0.heap.size w0 w'):=fun w0 h=>by
    have h3:=ks fo (dc m f p) fc _ w0 h (by rw[iX];omega) rfl;rw[iX,<-hA.out]at h3;refine h3.mono ?_;rintro e w' ⟨g,rfl,hg,hOw,hb⟩
    have e5:(rO m f).length=(A+63)/64:=by unfold rO;rw[<-ep.out,hA.out,<-iX];exact cP _ _
    have e6:cu (dc m f p) A=rO m f:=by unfold rO;rw[<-ep.out,hA.out,<-iX,li]
    rw[e6]at hOw;exact⟨g,by rw[e5],hg,hOw,hb⟩
   clear hgo hq hp dgo bonl batl r0 mu eq1;go_wp2_with fail;refine(MK.out _ HC).mono ?_;rintro e w3 ⟨bo,dap,rfl,h3C,h3F,h3l,h3n,hb3⟩;have hgw:g<wc.heap.size:=hR.bx.lt;have hR3:=hR.keep hb3 hR.bx.lt
   have hG3:=hG.keep hb3;clear hR hG HC HB MK hb3 fitC;have x1:=hR3.bx.cell 1 rfl;have x2:=hR3.bx.cell 2 rfl;have x3:=hR3.bx.cell 3 rfl;have x4:=hR3.bx.cell 4 rfl;have y1:=hR3.bx.frozen 1;have y2:=hR3.bx.frozen 2
   have y3:=hR3.bx.frozen 3;have y4:=hR3.bx.frozen 4;generalize hLc:(rC m f).length=Lc at *
   have O4:aC g w3 ((((w3.setCell ⟨g,1,none⟩ (.int .i64 p)).setCell ⟨g,2,none⟩ (.int .i64 4)).setCell ⟨g,3,none⟩ (.int .i64 ((p:Int)*4))).setCell ⟨g,4,none⟩ (.slice bo Lc dap)):=((((aC.refl g w3).set 1 (.int .i64 p)).set 2 (.int .i64 4)).set 3 (.int .i64 ((p:Int)*4))).set 4 (.slice bo Lc dap)
   have X4:aa ((((w3.setCell ⟨g,1,none⟩ (.int .i64 p)).setCell ⟨g,2,none⟩ (.int .i64 4)).setCell ⟨g,3,none⟩ (.int .i64 ((p:Int)*4))).setCell ⟨g,4,none⟩ (.slice bo Lc dap)) g [.int .i64 m,.int .i64 p,.int .i64 4,.int .i64 ((p:Int)*4),.slice bo Lc dap,.int .i64 0,.slice none 0 0,.slice oo n8 oc,.slice po n8 pc] 59:=(((hR3.bx.set 1 (.int .i64 p)).set 2 (.int .i64 4)).set 3 (.int .i64 ((p:Int)*4))).set 4 (.slice bo Lc dap)
   have hg3:=hR3.hg;have Y4:=O4.cel hR3.b2 (by omega);have C4:=O4.wd h3C (fun a _ ha=>by have:=h3n a ha;omega);have F4:=qI (O4.owns hG3.o (Nat.lt_succ_self _));have N4:=O4.owns hG3.n (Nat.lt_succ_self _)
   have T4:=O4.owns hG3.t (Nat.lt_succ_self _);have B4:=hR3.hw.trans (O4.below (by omega));have mu4:IntKind.i64.wrap ((p:Int)*4)=(p:Int)*4:=by rw[IntKind.wrap_i64];omega
   clear O4 hR3 hG3 h3C;go_wp2_with fail;refine(FR.out _ F4).mono ?_;rintro e w5 ⟨g5,rfl,hg5,Ow5,hb5⟩;have X5:=X4.kept hb5;have Y5:=Y4.kept hb5;have C5:=C4.keep hb5;have N5:=Ap.owns_below N4 hb5
   have T5:=Ap.owns_below T4 hb5;have B5:=bg B4 hb5;have hgl:=X4.lt;have cl5:=C5;clear X4 Y4 C4 N4 T4 B4 FR F4 x1 x2 x3 x4 y1 y2 y3 y4 hb5;have x5:=X5.cell 5 rfl;have x6:=X5.cell 6 rfl
   have y5:=X5.frozen 5;have y6:=X5.frozen 6;have W5d:=Ow5.wd;clear Ow5;generalize hLo:(rO m f).length=Lo at *
   have O6:aC g w5 ((w5.setCell ⟨g,5,none⟩ (.int .i64 A)).setCell ⟨g,6,none⟩ (.slice (some ⟨g5,0,none⟩) Lo Lo)):=((aC.refl g w5).set 5 (.int .i64 A)).set 6 (.slice (some ⟨g5,0,none⟩) Lo Lo)
   have X6:aa ((w5.setCell ⟨g,5,none⟩ (.int .i64 A)).setCell ⟨g,6,none⟩ (.slice (some ⟨g5,0,none⟩) Lo Lo)) g [.int .i64 m,.int .i64 p,.int .i64 4,.int .i64 ((p:Int)*4),.slice bo Lc dap,.int .i64 A,.slice (some ⟨g5,0,none⟩) Lo Lo,.slice oo n8 oc,.slice po n8 pc] 59:=(X5.set 5 (.int .i64 A)).set 6 (.slice (some ⟨g5,0,none⟩) Lo Lo)
   have Y6:=O6.cel Y5 (by omega);have C6:=O6.wd C5 (fun a _ ha=>by have:=h3n a ha;omega);have D6:=O6.wd W5d (fun a _ ha=>by cases ha;show g5≠g;omega);have N6:=O6.owns N5 (Nat.lt_succ_self _)
   have T6:=O6.owns T5 (Nat.lt_succ_self _);have B6:=B5.trans (O6.below (by omega));clear X5 Y5 C5 W5d N5 T5 B5 O6 cl5
   have HF:Hid (∀wz,aa wz (w.heap.size+1) [.int .i64 m,.int .i64 p,.int .i64 4,.int .i64 ((p:Int)*4),.slice bo Lc dap,.int .i64 A,.slice (some ⟨g5,0,none⟩) Lo Lo,.slice oo n8 oc,.slice po n8 pc] 59->aC (w.heap.size+1) ((w5.setCell ⟨g,5,none⟩ (.int .i64 A)).setCell ⟨g,6,none⟩ (.slice (some ⟨g5,0,none⟩) Lo Lo)) wz->RO w.heap.size wz (rC m f) (rO m f) (rS m f) (rT m f) bo dap (some ⟨g5,0,none⟩) Lo oo oc po pc/\Below w.heap.size w wz):=fun wz hz hO=>by
    refine⟨⟨hO.wd C6 (fun a _ ha=>by have:=h3n a ha;omega),by omega,hO.wd D6 (fun a _ ha=>by cases ha;show g5≠w.heap.size+1;omega),by omega,?_,?_,?_,?_,ij N6 (by omega),ij T6 (by omega)⟩,B6.trans (hO.below (Nat.le_succ _))⟩
    .unfold rS;rw[<-hn8.out];exact jm (hO.owns N6 (by omega))
    .unfold rS;rw[jT,<-hn8.out];exact hoc
    .unfold rT;rw[<-hn8.out];exact jm (hO.owns T6 (by omega))
    .unfold rT;rw[jS,<-hn8.out];exact hpc
   clear C6 D6 N6 T6 B6 h3n;go_wp2_with (first | refine fe g _ rfl X6 underlying59 kW ?_ | refine aJ (w.heap.size+1) _ _ rfl rfl Y6 rfl kW (by simp[Value.oneCell']) ?_);intro w7 X7 O7
   have HZ:=Hid.mk8 (And.intro X7 (HF.out w7 X7 O7));clear X7 O7 HF X6 Y6 x5 x6 y5 y6;go_wp2
   (try simp only[Exit.inBlock,Exit.then]);refine bodyPost_ret (a_ rfl (w.heap.size+1) _ rfl HZ.out.1 underlying59 kW) rfl ⟨bo,dap,some ⟨g5,0,none⟩,Lo,oo,oc,po,pc,?_,HZ.out.2.1,HZ.out.2.2⟩
   have s1:(rS m f).length=n8:=by unfold rS;rw[jT,hn8.out]
   have s2:(rT m f).length=n8:=by unfold rT;rw[jS,hn8.out]
   rw[hLc,hLo,s1,s2,<-ep.out,<-hA.out];rfl
end Go.Proofs.YtleegaihbgbcjabGreatDoor
namespace Go.Proofs.YtleegaihbgbcjabGreatDoor
open Num Bit
def aD(n:Int):Prop:= -9223372036854775808<=n/\n<=9223372036854775807
def gaE(ok:Bool)(N:Int)(X:List Nat)(i:Int):Int:=if ok then dB N X i else 2
def gaB(ok:Bool)(N:Int)(X:List Nat)(i:Int):Bool:=ok&&iq N X i
def grE(ok:Bool)(N:Int)(i:Int):Int:=if ok then (if i<0\/N<i then 3 else 0)else 2
def grN(ok:Bool)(N:Int)(X:List Nat)(bit:Bool)(i:Int):Int:=if grE ok N i=0 then (cB X bit i.toNat:Int)else 0
def gsE(ok:Bool)(N:Int)(X:List Nat)(bit:Bool)(k:Int):Int:=if ok then (if (iA N X bit k).isSome then 0 else 3)else 2
def gsX(ok:Bool)(N:Int)(X:List Nat)(bit:Bool)(k:Int):Int:=if ok then ((iA N X bit k).getD 0:Int)else 0
open Num Bit Bn
def rDec(N k V:Int)(xs:List Nat)(L:Int)(ys:List Nat):Option (List Bool):=fU N.toNat L ys ((List.range k.toNat).map (numAt V.toNat xs)) 0 []
def jJ(N k V M:Int)(xs:List Nat)(L:Int)(ys:List Nat)(S T:List Int)(m:Nat)(f:Nat->Bool):Bool:=
 decide (N=m)&&((decide (k=nb m)&&(decide (V=4)&&(decide (M=(nb m:Int)*4)&&decide (xs=rC m f))))&&((decide (L=bat m f (nb m))&&decide (ys=rO m f))&&(decide (S=rS m f)&&decide (T=rT m f))))
def cM(N k V M:Int)(xs:List Nat)(L:Int)(ys:List Nat)(S T:List Int):Bool:=
 (decide (0<=N/\N<=1048576)&&(aP k V M xs&&am L ys))&&jJ N k V M xs L ys S T (rwN (rDec N k V xs L ys)) (bitAt (rwX (rDec N k V xs L ys)))
def fJ(N k V M:Int)(xs:List Nat)(L:Int)(ys:List Nat)(S T:List Int):Int:=if cM N k V M xs L ys S T then (rwN (rDec N k V xs L ys):Int)else 0
def dO(N k V M:Int)(xs:List Nat)(L:Int)(ys:List Nat)(S T:List Int):List Nat:=if cM N k V M xs L ys S T then rwX (rDec N k V xs L ys)else []
def kj(N k V M:Int)(xs:List Nat)(L:Int)(ys:List Nat)(S T:List Int):Int:=if cM N k V M xs L ys S T then M+L+64*(S.length:Int)else 0
theorem rW(o:Option (List Bool))(h:∀l,o=some l->l.length<=1048576):am (rwN o:Int) (rwX o)=true:=by
 cases o with
 | none=>decide
 | some l=>exact fB _ _ (h l rfl)
theorem yr(o:Option (List Bool)):aA (rwX o):=by
 cases o with
 | none=>intro i;unfold gt;simp[rwX]
 | some l=>exact cY _ _
theorem sD(N k V:Int)(xs:List Nat)(L:Int)(ys:List Nat)(hN:N<=1048576):∀l,rDec N k V xs L ys=some l->l.length<=1048576:=by
 intro l h;have:=DG N.toNat L ys _ 0 [] l (by simp) h;omega
theorem kA(N k V M:Int)(xs:List Nat)(L:Int)(ys:List Nat)(S T:List Int)(h:cM N k V M xs L ys S T=true):
  (0<=N/\N<=1048576)/\aP k V M xs=true/\am L ys=true/\jJ N k V M xs L ys S T (rwN (rDec N k V xs L ys)) (bitAt (rwX (rDec N k V xs L ys)))=true:=by
 unfold cM at h;simp only[Bool.and_eq_true,decide_eq_true_eq]at h;exact⟨h.1.1,h.1.2.1,h.1.2.2,h.2⟩
theorem zH(N k V M:Int)(xs:List Nat)(L:Int)(ys:List Nat)(S T:List Int)(h:cM N k V M xs L ys S T=true):am (fJ N k V M xs L ys S T) (dO N k V M xs L ys S T)=true:=by
 obtain⟨h1,_,_,_⟩:=kA _ _ _ _ _ _ _ _ _ h;unfold fJ dO;rw[if_pos h,if_pos h];exact rW _ (sD N k V xs L ys h1.2)
theorem zG(N k V M:Int)(xs:List Nat)(L:Int)(ys:List Nat)(S T:List Int):aA (dO N k V M xs L ys S T):=by
 unfold dO;split
 .exact yr _
 .intro i;unfold gt;simp
theorem oZ(N k V M:Int)(xs:List Nat)(L:Int)(ys:List Nat)(S T:List Int)(m:Nat)(f:Nat->Bool)(h:jJ N k V M xs L ys S T m f=true):
  N=m/\k=nb m/\V=4/\M=(nb m:Int)*4/\xs=rC m f/\L=bat m f (nb m)/\ys=rO m f/\S=rS m f/\T=rT m f:=by
 unfold jJ at h;simp only[Bool.and_eq_true,decide_eq_true_eq]at h;obtain⟨h1,⟨h2,h3,h4,h5⟩,⟨h6,h7⟩,h8,h9⟩:=h;exact⟨h1,h2,h3,h4,h5,h6,h7,h8,h9⟩
theorem zE(m:Nat)(f:Nat->Bool):jJ m (nb m) 4 ((nb m:Int)*4) (rC m f) (bat m f (nb m)) (rO m f) (rS m f) (rT m f) m f=true:=by
 unfold jJ;simp
theorem zF(m:Nat)(f:Nat->Bool)(hm:m<=1048576):rDec m (nb m) 4 (rC m f) (bat m f (nb m)) (rO m f)=some ((List.range m).map f):=by
 unfold rDec rC rO;rw[Int.toNat_natCast,Int.toNat_natCast];exact FV m f hm
end Go.Proofs.YtleegaihbgbcjabGreatDoor
namespace Go.Proofs.YtleegaihbgbcjabGreatDoor
open Go.RowKit Num Bit
theorem e_:(prog.info? 53).map (·.size)=some 2:=by kernel_rfl
theorem zN(c0 c1 c2 c3 c4 c5 c6 c7 c8:Value)(ok:Bool)(N:Int)(X:List Nat)(w:World)(hf:aA X)(hck:ok=true->am N X=true)(C1:Hid (∀w0,Below w.heap.size w w0->Calls prog 169 #[.agg #[c0,c1,c2,c3,c4,c5,c6,c7,c8]] w0 fun e w'=>∃bo bc,e=.returned (.tuple #[.agg #[.int .i64 N,.slice bo X.length bc],.bool ok])/\Wd w' bo X/\X.length<=bc/\Below w0.heap.size w0 w')):
  Qq 119 #[.agg #[c0,c1,c2,c3,c4,c5,c6,c7,c8]] w (.bool ok):=by
 obtain⟨W,hW⟩:∃W,W=w.alloc (.cells #[c0,c1,c2,c3,c4,c5,c6,c7,c8] 59):=⟨_,rfl⟩;have bW:=ba hW;go_enter func119,ntmps119;go_wp2_with fail;rw[<-hW];refine(C1.out _ bW).mono ?_
 rintro e w1 ⟨bo,bc,rfl,hx,hbc,hb⟩;have bw1:=bg bW hb;clear hb C1;have bA:=below_alloc w1 (.cells #[.int .i64 N,.slice bo X.length bc] 53);have bw2:=bg bw1 bA;go_wp2;go_ret
 exact⟨rfl,bw2⟩
open Go.RowKit Num Bit Bn
def fm(N:Int)(xs:List Nat):Int:=if am N xs then N else 0
def fu(N:Int)(xs:List Nat):Int:=if am N xs then (nb N.toNat:Int)else 0
def fk(N:Int)(xs:List Nat):Int:=if am N xs then 4 else 0
def fp(N:Int)(xs:List Nat):Int:=if am N xs then (nb N.toNat:Int)*4 else 0
def dL(N:Int)(xs:List Nat):List Nat:=if am N xs then rC N.toNat (bitAt xs)else []
def fq(N:Int)(xs:List Nat):Int:=if am N xs then (bat N.toNat (bitAt xs) (nb N.toNat):Int)else 0
def dK(N:Int)(xs:List Nat):List Nat:=if am N xs then rO N.toNat (bitAt xs)else []
def dJ(N:Int)(xs:List Nat):List Int:=if am N xs then rS N.toNat (bitAt xs)else []
def dI(N:Int)(xs:List Nat):List Int:=if am N xs then rT N.toNat (bitAt xs)else []
def kt(N:Int)(xs:List Nat):Int:=if am N xs then 0 else 2
theorem zR(N:Int)(ao:Option Addr)(xs:List Nat)(cap:Nat)(w:World)(hx:Wd w ao xs)(hf:aA xs)(hk:am N xs=false):
  Qq 62 #[.agg #[.int .i64 N,.slice ao xs.length cap]] w (.tuple #[.agg #[.int .i64 0,.int .i64 0,.int .i64 0,.int .i64 0,.slice none 0 0,.int .i64 0,.slice none 0 0,.slice none 0 0,.slice none 0 0],.int .i64 2]):=by
 obtain⟨W,hW⟩:∃W,W=(w.alloc (.cells #[.int .i64 N,.slice ao xs.length cap] 53)).alloc (.cells #[.int .i64 0,.int .i64 0,.int .i64 0,.int .i64 0,.slice none 0 0,.int .i64 0,.slice none 0 0,.slice none 0 0,.slice none 0 0] 59):=⟨_,rfl⟩
 have bW:=dt hW;have B2:=de hW
 have C1:Hid (∀w0,w0=W->Qq 64 #[.agg #[.int .i64 N,.slice ao xs.length cap]] w0 (.bool false)):=fun w0 h=>by
  subst h;have:=du N ao xs cap w0 (hx.keep bW) hf;rw[hk]at this;exact this
 go_enter func62,ntmps62;go_wp2_with fail;rw[<-hW];refine mr (C1.out _ rfl) fun w1 hb=>?_;have bw1:=bg bW hb;replace B2:=B2.kept hb;clear hb C1 hW bW W
 go_wp2_with (refine aJ (w.heap.size+1) _ _ rfl rfl B2 rfl kW (by simp[Value.oneCell']) ?_);intro w3 B3 O3;have HZ:=Hid.mk8 (And.intro B3 (bw1.trans (O3.below (Nat.le_succ _))));clear B3 O3 B2 bw1;go_wp2
 (try simp only[Exit.inBlock,Exit.then]);exact bodyPost_ret (a_ rfl (w.heap.size+1) _ rfl HZ.out.1 underlying59 kW) rfl ⟨rfl,HZ.out.2⟩
theorem zQ(N:Int)(ao:Option Addr)(xs:List Nat)(cap:Nat)(w:World)(hx:Wd w ao xs)(hf:aA xs):
  Calls prog 62 #[.agg #[.int .i64 N,.slice ao xs.length cap]] w fun e w'=>∃bo bc qo qc so sc tO tc,e=.returned (.tuple #[.agg #[.int .i64 (fm N xs),.int .i64 (fu N xs),.int .i64 (fk N xs),.int .i64 (fp N xs),.slice bo (dL N xs).length bc,.int .i64 (fq N xs),.slice qo (dK N xs).length qc,.slice so (dJ N xs).length sc,.slice tO (dI N xs).length tc],.int .i64 (kt N xs)])/\RO w.heap.size w' (dL N xs) (dK N xs) (dJ N xs) (dI N xs) bo bc qo qc so sc tO tc/\Below w.heap.size w w':=by
 unfold fm fu fk fp dL fq dK dJ dI kt;cases hk:am N xs with
 | false=>
  refine mr (zR N ao xs cap w hx hf hk) fun w' hb=>?_
  exact⟨none,0,none,0,none,0,none,0,rfl,⟨cK _ _,Nat.le_refl _,cK _ _,Nat.le_refl _,gQ _ _,Nat.le_refl _,gQ _ _,Nat.le_refl _,aX _,aX _⟩,hb⟩
 | true=>
  obtain⟨h0,h1,_,_⟩:=bj N xs hk;obtain⟨m,rfl⟩:=Int.eq_ofNat_of_zero_le h0;have:=sH m ao xs cap w hx hf hk;simp only[Int.toNat_natCast];exact this
structure lJ (w:World) (N k V M:Int) (ao:Option Addr) (xs:List Nat) (cap:Nat) (L:Int) (qo:Option Addr) (ys:List Nat) (dap:Nat) (so:Option Addr) (S:List Int) (sc:Nat) (tO:Option Addr) (T:List Int) (tc:Nat):Prop where
 x:Wd w ao xs
 xf:aA xs
 xc:xs.length<=cap
 y:Wd w qo ys
 yf:aA ys
 yc:ys.length<=dap
 s:Nd w so S
 sl:S.length<=1048576
 sc:S.length<=sc
 t:Nd w tO T
 tl:T.length<=1048576
 tc:T.length<=tc
theorem lJ.keep{w w':World}{N k V M:Int}{ao:Option Addr}{xs:List Nat}{cap:Nat}{L:Int}{qo:Option Addr}{ys:List Nat}{dap:Nat}{so:Option Addr}{S:List Int}{sc:Nat}{tO:Option Addr}{T:List Int}{tc:Nat}(h:lJ w N k V M ao xs cap L qo ys dap so S sc tO T tc)(hb:Below w.heap.size w w'):lJ w' N k V M ao xs cap L qo ys dap so S sc tO T tc:=
 ⟨h.x.keep hb,h.xf,h.xc,h.y.keep hb,h.yf,h.yc,h.s.keep hb,h.sl,h.sc,h.t.keep hb,h.tl,h.tc⟩
theorem zI(N k V M:Int)(ao:Option Addr)(xs:List Nat)(cap:Nat)(L:Int)(qo:Option Addr)(ys:List Nat)(dap:Nat)(so:Option Addr)(S:List Int)(sc:Nat)(tO:Option Addr)(T:List Int)(tc:Nat)(w:World)(h:lJ w N k V M ao xs cap L qo ys dap so S sc tO T tc)(h2:0<=N)(h3:¬1048576<N)(hik:aP k V M xs=true)(hck:am L ys=true):
  Calls prog 169 #[.agg #[.int .i64 N,.int .i64 k,.int .i64 V,.int .i64 M,.slice ao xs.length cap,.int .i64 L,.slice qo ys.length dap,.slice so S.length sc,.slice tO T.length tc]] w fun e w'=>∃bo bc,e=.returned (.tuple #[.agg #[.int .i64 (fJ N k V M xs L ys S T),.slice bo (dO N k V M xs L ys S T).length bc],.bool (cM N k V M xs L ys S T)])/\Wd w' bo (dO N k V M xs L ys S T)/\(dO N k V M xs L ys S T).length<=bc/\Below w.heap.size w w':=by
 obtain⟨W,hW⟩:∃W,W=(w.alloc (.cells #[.int .i64 N,.int .i64 k,.int .i64 V,.int .i64 M,.slice ao xs.length cap,.int .i64 L,.slice qo ys.length dap,.slice so S.length sc,.slice tO T.length tc] 59)).alloc (.cells #[.int .i64 0,.slice none 0 0] 53):=⟨_,rfl⟩
 have bW:=dt hW;have B1:=dH hW;have B2:=de hW
 have C1:Hid (Qz w 189 #[.agg #[.int .i64 k,.int .i64 V,.int .i64 M,.slice ao xs.length cap]] (.bool (aP k V M xs))):=fun w0 hb=>iY k V M ao xs cap w0 (h.x.keep hb) h.xf
 have C2:Hid (Qz w 64 #[.agg #[.int .i64 L,.slice qo ys.length dap]] (.bool (am L ys))):=fun w0 hb=>du L qo ys dap w0 (h.y.keep hb) h.yf
 obtain⟨Z1,hZ1⟩:∃Z,Hid (Z=fJ N k V M xs L ys S T):=⟨_,rfl⟩;obtain⟨Z2,hZ2⟩:∃Z,Hid (Z=dO N k V M xs L ys S T):=⟨_,rfl⟩;obtain⟨Z3,hZ3⟩:∃Z,Hid (Z=cM N k V M xs L ys S T):=⟨_,rfl⟩
 rw[<-hZ1.out,<-hZ2.out,<-hZ3.out];have bad:Hid (cM N k V M xs L ys S T=false->Z1=0/\Z2=[]/\Z3=false):=fun h=>by rw[hZ1.out,hZ2.out,hZ3.out];unfold fJ dO;rw[h];exact⟨rfl,rfl,rfl⟩
 have r0:=B1.cell 0 rfl;have r1:=B1.cell 1 rfl;have r2:=B1.cell 2 rfl;have r3:=B1.cell 3 rfl;have r4:=B1.cell 4 rfl;have r5:=B1.cell 5 rfl;have r6:=B1.cell 6 rfl;have r7:=B1.cell 7 rfl;have r8:=B1.cell 8 rfl
 have h4:¬N<0:=by omega
 rw[hik]at C1;rw[hck]at C2;obtain⟨m,rfl⟩:=Int.eq_ofNat_of_zero_le h2;obtain⟨a1,a2,a3,a4,a5,a6,a7,a8⟩:=dP k V M xs hik;obtain⟨n,rfl⟩:=Int.eq_ofNat_of_zero_le a3
 obtain⟨v,rfl⟩:=Int.eq_ofNat_of_zero_le (show 0<=V by omega);obtain⟨O,hO⟩:∃O,Hid (O=rDec m n v xs L ys):=⟨_,rfl⟩;have hO2:fU m L ys ((List.range n).map (numAt v xs)) 0 []=O:=by rw[hO.out];rfl
 have hOl:∀l,O=some l->l.length<=1048576:=fun l e=>sD m n v xs L ys (by omega) l (hO.out.symm.trans e);have ck:=rW O hOl
 have RWc:Hid (∀w0,Below w.heap.size w w0->Calls prog 190 #[.agg #[.int .i64 m,.int .i64 n,.int .i64 v,.int .i64 M,.slice ao xs.length cap,.int .i64 L,.slice qo ys.length dap,.slice so S.length sc,.slice tO T.length tc]] w0 fun e w'=>∃bo bc,e=.returned (.agg #[.int .i64 (rwN O),.slice bo (rwX O).length bc])/\Wd w' bo (rwX O)/\aA (rwX O)/\(rwX O).length<=bc/\Below w0.heap.size w0 w'):=fun w0 hb=>
  yy m n v M ao xs cap L qo ys dap so S.length sc tO T.length tc w0 (by omega) (h.x.keep hb) h.xf hik (h.y.keep hb) h.yf O hO2
 have E:Hid (Z3=jJ m n v M xs L ys S T (rwN O) (bitAt (rwX O))):=by
  show _=_;rw[hZ3.out];unfold cM;rw[hik,hck,<-hO.out,decide_eq_true (show(0:Int)<=m/\(m:Int)<=1048576 by omega)];rfl
 have E1:Hid (Z1=if Z3 then (rwN O:Int)else 0):=by show _=_;rw[hZ1.out,hZ3.out,hO.out];rfl
 have E2:Hid (Z2=if Z3 then rwX O else []):=by show _=_;rw[hZ2.out,hZ3.out,hO.out];rfl
 clear hZ1 hZ2 hZ3 bad hO hO2 hOl;generalize rwN O=p at *;generalize rwX O=X at *
 have BD:Hid (∀w0 bo bc,Wd w0 bo X->aA X->Calls prog 62 #[.agg #[.int .i64 p,.slice bo X.length bc]] w0 fun e w'=>∃co cc po pc uo uc vo vc,e=.returned (.tuple #[.agg #[.int .i64 p,.int .i64 (nb p),.int .i64 4,.int .i64 ((nb p:Int)*4),.slice co (rC p (bitAt X)).length cc,.int .i64 (bat p (bitAt X) (nb p)),.slice po (rO p (bitAt X)).length pc,.slice uo (rS p (bitAt X)).length uc,.slice vo (rT p (bitAt X)).length vc],.int .i64 0])/\RO w0.heap.size w' (rC p (bitAt X)) (rO p (bitAt X)) (rS p (bitAt X)) (rT p (bitAt X)) co cc po pc uo uc vo vc/\Below w0.heap.size w0 w'):=fun w0 bo bc hX hF=>sH p bo X bc w0 hX hF ck
 have lx:xs.length<=1048576:=by have:=(bj M xs a5).2.2.1;omega
 have ly:ys.length<=1048576:=by obtain⟨_,_,h7,_⟩:=bj L ys hck;omega
 have SM:Hid (∀bz w0 co cc po pc uo uc vo vc,Below w.heap.size w w0->RO bz w0 (rC p (bitAt X)) (rO p (bitAt X)) (rS p (bitAt X)) (rT p (bitAt X)) co cc po pc uo uc vo vc->Qq 115 #[.agg #[.int .i64 m,.int .i64 n,.int .i64 v,.int .i64 M,.slice ao xs.length cap,.int .i64 L,.slice qo ys.length dap,.slice so S.length sc,.slice tO T.length tc],.agg #[.int .i64 p,.int .i64 (nb p),.int .i64 4,.int .i64 ((nb p:Int)*4),.slice co (rC p (bitAt X)).length cc,.int .i64 (bat p (bitAt X) (nb p)),.slice po (rO p (bitAt X)).length pc,.slice uo (rS p (bitAt X)).length uc,.slice vo (rT p (bitAt X)).length vc]] w0 (.bool Z3)):=fun bz w0 co cc po pc uo uc vo vc hb hr=>by
  have h9:=h.keep hb;rw[E.out]
  exact sG m n v M ao xs cap L qo ys dap so S sc tO T tc p (nb p) 4 ((nb p:Int)*4) co (rC p (bitAt X)) cc (bat p (bitAt X) (nb p)) po (rO p (bitAt X)) pc uo (rS p (bitAt X)) uc vo (rT p (bitAt X)) vc w0 h9.x hr.c lx h9.y hr.o ly h9.s hr.s h9.sl h9.t hr.t h9.tl
 clear ck a1 a2 a3 a4 a5 a6 a7 a8 lx ly;go_enter func169,ntmps169;go_upto_region 1 with fail
 rw[<-hW];clear hW;go_wp2_with fail;refine mr (C1.out _ bW) fun w1 hb=>?_;have bw1:=bg bW hb;replace B1:=B1.kept hb;replace B2:=B2.kept hb;have q0:=B1.cell 0 rfl;have q1:=B1.cell 1 rfl
 have q2:=B1.cell 2 rfl;have q3:=B1.cell 3 rfl;have q4:=B1.cell 4 rfl;have q5:=B1.cell 5 rfl;have q6:=B1.cell 6 rfl;have q7:=B1.cell 7 rfl;have q8:=B1.cell 8 rfl;clear hb r0 r1 r2 r3 r4 r5 r6 r7 r8;have r0:=q0
 have r1:=q1;have r2:=q2;have r3:=q3;have r4:=q4;have r5:=q5;have r6:=q6;have r7:=q7;have r8:=q8;clear q0 q1 q2 q3 q4 q5 q6 q7 q8;go_wp2_with fail;refine mr (C2.out _ bw1) fun w2 hb=>?_
 have bw2:=bg bw1 hb;replace B1:=B1.kept hb;replace B2:=B2.kept hb;have q0:=B1.cell 0 rfl;have q1:=B1.cell 1 rfl;have q2:=B1.cell 2 rfl;have q3:=B1.cell 3 rfl;have q4:=B1.cell 4 rfl
 have q5:=B1.cell 5 rfl;have q6:=B1.cell 6 rfl;have q7:=B1.cell 7 rfl;have q8:=B1.cell 8 rfl;clear hb r0 r1 r2 r3 r4 r5 r6 r7 r8;have r0:=q0;have r1:=q1;have r2:=q2;have r3:=q3;have r4:=q4;have r5:=q5
 have r6:=q6;have r7:=q7;have r8:=q8;clear q0 q1 q2 q3 q4 q5 q6 q7 q8;go_wp2_with fail;refine(RWc.out _ bw2).mono ?_;rintro e w3 ⟨bo,bc,rfl,hX,hF,hbc,hb⟩;have bw3:=bg bw2 hb
 replace B1:=B1.kept hb;replace B2:=B2.kept hb;clear hb RWc C1 C2 r0 r1 r2 r3 r4 r5 r6 r7 r8;have z3:=B2.lt;have n3:w3.heap.size≠w.heap.size+1:=by omega
 clear z3;obtain⟨U,hU⟩:∃U,U=w3.alloc (.cells #[.int .i64 p,.slice bo X.length bc] 53):=⟨_,rfl⟩;have bA:Below w3.heap.size w3 U:=by rw[hU];exact below_alloc w3 _
 have bV:=bg bw3 bA;have D4:aa U w3.heap.size [.int .i64 p,.slice bo X.length bc] 53:=by rw[hU];exact aa.new w3 _ _
 replace B1:=B1.kept bA;replace B2:=B2.kept bA;replace hX:=hX.keep bA;clear bA;go_wp2_with fail;rw[<-hU];clear hU;refine(BD.out _ _ _ hX hF).mono ?_;rintro e w5 ⟨co,cc,po,pc,uo,uc,vo,vc,rfl,hr,hb⟩
 have bw5:=bg bV hb;replace B1:=B1.kept hb;replace B2:=B2.kept hb;replace D4:=D4.kept hb;replace hX:=hX.keep hb;clear hb BD
 obtain⟨V5,hV⟩:∃V5,V5=w5.alloc (.cells #[.int .i64 p,.int .i64 (nb p),.int .i64 4,.int .i64 ((nb p:Int)*4),.slice co (rC p (bitAt X)).length cc,.int .i64 (bat p (bitAt X) (nb p)),.slice po (rO p (bitAt X)).length pc,.slice uo (rS p (bitAt X)).length uc,.slice vo (rT p (bitAt X)).length vc] 59):=⟨_,rfl⟩
 have bA:Below w5.heap.size w5 V5:=by rw[hV];exact below_alloc w5 _
 have bV5:=bg bw5 bA;replace hr:=hr.keep bA;have r:=B1.lt;have r0:=B1.cell 0 rfl;have r1:=B1.cell 1 rfl;have r2:=B1.cell 2 rfl;have r3:=B1.cell 3 rfl;have r4:=B1.cell 4 rfl
 have r5:=B1.cell 5 rfl;have r6:=B1.cell 6 rfl;have r7:=B1.cell 7 rfl;have r8:=B1.cell 8 rfl;replace B2:=B2.kept bA;replace D4:=D4.kept bA;replace hX:=hX.keep bA;clear bA;go_wp2_with fail;rw[<-hV]
 clear hV r r0 r1 r2 r3 r4 r5 r6 r7 r8;refine mr (SM.out _ _ _ _ _ _ _ _ _ _ bV5 hr) fun w6 hb=>?_;have bw6:=bg bV5 hb;replace B2:=B2.kept hb;replace D4:=D4.kept hb;replace hX:=hX.keep hb
 clear hb SM hr;cases hz:Z3 with
 | false=>
  have E0:Hid (Z1=0/\Z2=[]):=by
   show _/\_;rw[E1.out,E2.out,hz];exact⟨rfl,rfl⟩
  clear E E1 E2;go_wp2_with (first | refine fe w3.heap.size _ rfl D4 underlying53 e_ ?_ | refine aJ (w.heap.size+1) _ _ rfl rfl B2 rfl e_ (by simp[Value.oneCell']) ?_);intro w9 B9 O9
  have HZ:=Hid.mk8 (And.intro B9 (bw6.trans (O9.below (Nat.le_succ _))));clear B9 O9 B2 D4 hX;go_wp2
  (try simp only[Exit.inBlock,Exit.then]);refine bodyPost_ret (a_ rfl (w.heap.size+1) _ rfl HZ.out.1 underlying53 e_) rfl ?_;obtain⟨e1,e2⟩:=E0.out;rw[e1,e2,hz]
  exact⟨none,0,rfl,cK _ _,Nat.le_refl _,HZ.out.2⟩
 | true=>
  have E0:Hid (Z1=(p:Int)/\Z2=X):=by
   show _/\_;rw[E1.out,E2.out,hz];exact⟨rfl,rfl⟩
  clear E E1 E2;have hne:=hX.apart B2 (by intro v hv n;simp at hv;rcases hv with rfl | rfl<;>simp)
  go_wp2_with (first | refine fe w3.heap.size _ rfl D4 underlying53 e_ ?_ | refine aJ (w.heap.size+1) _ _ rfl rfl B2 rfl e_ (by simp[Value.oneCell']) ?_);intro w9 B9 O9
  have HZ:=Hid.mk8 (And.intro B9 (And.intro (O9.wd hX hne) (bw6.trans (O9.below (Nat.le_succ _)))));clear B9 O9 B2 D4 hX hne;go_wp2
  (try simp only[Exit.inBlock,Exit.then]);refine bodyPost_ret (a_ rfl (w.heap.size+1) _ rfl HZ.out.1 underlying53 e_) rfl ?_;obtain⟨e1,e2⟩:=E0.out;rw[e1,e2,hz]
  exact⟨bo,bc,rfl,HZ.out.2.1,hbc,HZ.out.2.2⟩
theorem zJ(N k V M:Int)(ao:Option Addr)(xs:List Nat)(cap:Nat)(L:Int)(qo:Option Addr)(ys:List Nat)(dap:Nat)(so:Option Addr)(S:List Int)(sc:Nat)(tO:Option Addr)(T:List Int)(tc:Nat)(w:World)(h:lJ w N k V M ao xs cap L qo ys dap so S sc tO T tc):
  Calls prog 169 #[.agg #[.int .i64 N,.int .i64 k,.int .i64 V,.int .i64 M,.slice ao xs.length cap,.int .i64 L,.slice qo ys.length dap,.slice so S.length sc,.slice tO T.length tc]] w fun e w'=>∃bo bc,e=.returned (.tuple #[.agg #[.int .i64 (fJ N k V M xs L ys S T),.slice bo (dO N k V M xs L ys S T).length bc],.bool (cM N k V M xs L ys S T)])/\Wd w' bo (dO N k V M xs L ys S T)/\(dO N k V M xs L ys S T).length<=bc/\Below w.heap.size w w':=by
 obtain⟨W,hW⟩:∃W,W=(w.alloc (.cells #[.int .i64 N,.int .i64 k,.int .i64 V,.int .i64 M,.slice ao xs.length cap,.int .i64 L,.slice qo ys.length dap,.slice so S.length sc,.slice tO T.length tc] 59)).alloc (.cells #[.int .i64 0,.slice none 0 0] 53):=⟨_,rfl⟩
 have bW:=dt hW;have B1:=dH hW;have B2:=de hW
 have C1:Hid (Qz w 189 #[.agg #[.int .i64 k,.int .i64 V,.int .i64 M,.slice ao xs.length cap]] (.bool (aP k V M xs))):=fun w0 hb=>iY k V M ao xs cap w0 (h.x.keep hb) h.xf
 have C2:Hid (Qz w 64 #[.agg #[.int .i64 L,.slice qo ys.length dap]] (.bool (am L ys))):=fun w0 hb=>du L qo ys dap w0 (h.y.keep hb) h.yf
 obtain⟨Z1,hZ1⟩:∃Z,Hid (Z=fJ N k V M xs L ys S T):=⟨_,rfl⟩;obtain⟨Z2,hZ2⟩:∃Z,Hid (Z=dO N k V M xs L ys S T):=⟨_,rfl⟩;obtain⟨Z3,hZ3⟩:∃Z,Hid (Z=cM N k V M xs L ys S T):=⟨_,rfl⟩
 rw[<-hZ1.out,<-hZ2.out,<-hZ3.out];have bad:Hid (cM N k V M xs L ys S T=false->Z1=0/\Z2=[]/\Z3=false):=fun h=>by rw[hZ1.out,hZ2.out,hZ3.out];unfold fJ dO;rw[h];exact⟨rfl,rfl,rfl⟩
 have r0:=B1.cell 0 rfl;have r1:=B1.cell 1 rfl;have r2:=B1.cell 2 rfl;have r3:=B1.cell 3 rfl;have r4:=B1.cell 4 rfl;have r5:=B1.cell 5 rfl;have r6:=B1.cell 6 rfl;have r7:=B1.cell 7 rfl;have r8:=B1.cell 8 rfl
 by_cases h0:N<0
 .have E:Hid (Z1=0/\Z2=[]/\Z3=false):=bad.out (by unfold cM;rw[decide_eq_false (by omega)];rfl);clear bad hZ1 hZ2 hZ3;go_enter func169,ntmps169;go_upto_region 1 with fail
  rw[<-hW];clear hW;go_wp2_with (refine aJ (w.heap.size+1) _ _ rfl rfl B2 rfl e_ (by simp[Value.oneCell']) ?_);intro w9 B9 O9;have HZ:=Hid.mk8 (And.intro B9 (bW.trans (O9.below (Nat.le_succ _))));clear B9 O9
  go_wp2
  (try simp only[Exit.inBlock,Exit.then]);refine bodyPost_ret (a_ rfl (w.heap.size+1) _ rfl HZ.out.1 underlying53 e_) rfl ?_;obtain⟨e1,e2,e3⟩:=E.out;rw[e1,e2,e3]
  exact⟨none,0,rfl,cK _ _,Nat.le_refl _,HZ.out.2⟩
 by_cases h1:1048576<N
 .have E:Hid (Z1=0/\Z2=[]/\Z3=false):=bad.out (by unfold cM;rw[decide_eq_false (by omega)];rfl);clear bad hZ1 hZ2 hZ3;go_enter func169,ntmps169;go_upto_region 1 with fail
  rw[<-hW];clear hW;go_wp2_with (refine aJ (w.heap.size+1) _ _ rfl rfl B2 rfl e_ (by simp[Value.oneCell']) ?_);intro w9 B9 O9;have HZ:=Hid.mk8 (And.intro B9 (bW.trans (O9.below (Nat.le_succ _))));clear B9 O9
  go_wp2
  (try simp only[Exit.inBlock,Exit.then]);refine bodyPost_ret (a_ rfl (w.heap.size+1) _ rfl HZ.out.1 underlying53 e_) rfl ?_;obtain⟨e1,e2,e3⟩:=E.out;rw[e1,e2,e3]
  exact⟨none,0,rfl,cK _ _,Nat.le_refl _,HZ.out.2⟩
 have h2:0<=N:=by omega
 have h3:¬1048576<N:=by omega
 have h4:¬N<0:=by omega
 cases hik:aP k V M xs with
 | false=>
  have E:Hid (Z1=0/\Z2=[]/\Z3=false):=bad.out (by unfold cM;rw[hik];simp);clear bad hZ1 hZ2 hZ3;rw[hik]at C1;go_enter func169,ntmps169;go_upto_region 1 with fail
  rw[<-hW];clear hW;go_wp2_with fail;refine mr (C1.out _ bW) fun w1 hb=>?_;have bw1:=bg bW hb;replace B1:=B1.kept hb;replace B2:=B2.kept hb;have q0:=B1.cell 0 rfl;have q1:=B1.cell 1 rfl
  have q2:=B1.cell 2 rfl;have q3:=B1.cell 3 rfl;have q4:=B1.cell 4 rfl;have q5:=B1.cell 5 rfl;have q6:=B1.cell 6 rfl;have q7:=B1.cell 7 rfl;have q8:=B1.cell 8 rfl;clear hb r0 r1 r2 r3 r4 r5 r6 r7 r8;have r0:=q0
  have r1:=q1;have r2:=q2;have r3:=q3;have r4:=q4;have r5:=q5;have r6:=q6;have r7:=q7;have r8:=q8;clear q0 q1 q2 q3 q4 q5 q6 q7 q8
  go_wp2_with (refine aJ (w.heap.size+1) _ _ rfl rfl B2 rfl e_ (by simp[Value.oneCell']) ?_);intro w9 B9 O9;have HZ:=Hid.mk8 (And.intro B9 (bw1.trans (O9.below (Nat.le_succ _))));clear B9 O9;go_wp2
  (try simp only[Exit.inBlock,Exit.then]);refine bodyPost_ret (a_ rfl (w.heap.size+1) _ rfl HZ.out.1 underlying53 e_) rfl ?_;obtain⟨e1,e2,e3⟩:=E.out;rw[e1,e2,e3]
  exact⟨none,0,rfl,cK _ _,Nat.le_refl _,HZ.out.2⟩
 | true=>
  rw[hik]at C1;cases hck:am L ys with
  | false=>
   have E:Hid (Z1=0/\Z2=[]/\Z3=false):=bad.out (by unfold cM;rw[hik,hck];simp);clear bad hZ1 hZ2 hZ3;rw[hck]at C2;go_enter func169,ntmps169;go_upto_region 1 with fail
   rw[<-hW];clear hW;go_wp2_with fail;refine mr (C1.out _ bW) fun w1 hb=>?_;have bw1:=bg bW hb;replace B1:=B1.kept hb;replace B2:=B2.kept hb;have q0:=B1.cell 0 rfl;have q1:=B1.cell 1 rfl
   have q2:=B1.cell 2 rfl;have q3:=B1.cell 3 rfl;have q4:=B1.cell 4 rfl;have q5:=B1.cell 5 rfl;have q6:=B1.cell 6 rfl;have q7:=B1.cell 7 rfl;have q8:=B1.cell 8 rfl;clear hb r0 r1 r2 r3 r4 r5 r6 r7 r8;have r0:=q0
   have r1:=q1;have r2:=q2;have r3:=q3;have r4:=q4;have r5:=q5;have r6:=q6;have r7:=q7;have r8:=q8;clear q0 q1 q2 q3 q4 q5 q6 q7 q8;go_wp2_with fail;refine mr (C2.out _ bw1) fun w2 hb=>?_
   have bw2:=bg bw1 hb;replace B1:=B1.kept hb;replace B2:=B2.kept hb;have q0:=B1.cell 0 rfl;have q1:=B1.cell 1 rfl;have q2:=B1.cell 2 rfl;have q3:=B1.cell 3 rfl;have q4:=B1.cell 4 rfl
   have q5:=B1.cell 5 rfl;have q6:=B1.cell 6 rfl;have q7:=B1.cell 7 rfl;have q8:=B1.cell 8 rfl;clear hb r0 r1 r2 r3 r4 r5 r6 r7 r8;have r0:=q0;have r1:=q1;have r2:=q2;have r3:=q3;have r4:=q4;have r5:=q5
   have r6:=q6;have r7:=q7;have r8:=q8;clear q0 q1 q2 q3 q4 q5 q6 q7 q8;go_wp2_with (refine aJ (w.heap.size+1) _ _ rfl rfl B2 rfl e_ (by simp[Value.oneCell']) ?_);intro w9 B9 O9
   have HZ:=Hid.mk8 (And.intro B9 (bw2.trans (O9.below (Nat.le_succ _))));clear B9 O9;go_wp2
   (try simp only[Exit.inBlock,Exit.then]);refine bodyPost_ret (a_ rfl (w.heap.size+1) _ rfl HZ.out.1 underlying53 e_) rfl ?_;obtain⟨e1,e2,e3⟩:=E.out;rw[e1,e2,e3]
   exact⟨none,0,rfl,cK _ _,Nat.le_refl _,HZ.out.2⟩
  | true=>
   rw[hZ1.out,hZ2.out,hZ3.out];exact zI N k V M ao xs cap L qo ys dap so S sc tO T tc w h h2 h3 hik hck
def Tb(w:World)(b:Nat)(cs:List Value):Prop:=∃T,aa w b cs T
theorem Tb.lt{w:World}{b:Nat}{cs:List Value}(h:Tb w b cs):b<w.heap.size:=by
 obtain⟨T,h⟩:=h;exact h.lt
theorem Tb.cell{w:World}{b:Nat}{cs:List Value}(h:Tb w b cs)(i:Nat){v:Value}(hv:cs[i]?=some v):w.cell? ⟨b,i,none⟩=some v:=by
 obtain⟨T,h⟩:=h;exact h.cell i hv
theorem Tb.keep{w w':World}{b base:Nat}{cs:List Value}(h:Tb w b cs)(hb:Below base w w')(hlt:b<base):Tb w' b cs:=by
 obtain⟨T,h⟩:=h;exact⟨T,h.keep hb hlt⟩
theorem Tb.kept{w w':World}{b:Nat}{cs:List Value}(h:Tb w b cs)(hb:Below w.heap.size w w'):Tb w' b cs:=h.keep hb h.lt
theorem Tb.other{w:World}{b:Nat}{cs:List Value}(h:Tb w b cs){a:Addr}(ha:b≠a.block)(v:Value):Tb (w.setCell a v) b cs:=by
 obtain⟨T,h⟩:=h;exact⟨T,h.other ha v⟩
def vI(l:List Nat):List Value:=l.map fun n:Nat=>Value.int .i64 (n:Int)
theorem oK(l:List Nat)(i:Nat)(h:i<l.length):(vI l)[i]?=some (.int .i64 (gt l i)):=by
 unfold vI;rw[List.getElem?_map,gt_get l i h];rfl
theorem wH(l:List Nat)(i:Nat)(h:i<l.length):(wv l)[i]?=some (.int .u64 (gt l i)):=by
 unfold wv;rw[List.getElem?_map,gt_get l i h];rfl
def cm:List Nat:=[0,4,7,9,11,12,13,13,13,13,12,11,9,7,4,0]
def iw:List Nat:=[1,15,105,455,1365,3003,5005,6435,6435,5005,3003,1365,455,105,15,1]
theorem pO:cm.length=16:=rfl
theorem DH:iw.length=16:=rfl
theorem qa(c:Nat)(h:c<=15):gt cm c=kwd c:=by
 match c,h with
 | 0,_ | 1,_ | 2,_ | 3,_ | 4,_ | 5,_ | 6,_ | 7,_ | 8,_ | 9,_ | 10,_ | 11,_ | 12,_ | 13,_ | 14,_ | 15,_=>decide +kernel
theorem EG(c:Nat)(h:c<=15):gt iw c=ch 15 c:=by
 match c,h with
 | 0,_ | 1,_ | 2,_ | 3,_ | 4,_ | 5,_ | 6,_ | 7,_ | 8,_ | 9,_ | 10,_ | 11,_ | 12,_ | 13,_ | 14,_ | 15,_=>decide +kernel
structure GV (w:World):Prop where
 wd:Tb w 0 (vI cm)
 wy:Tb w 1 (wv iw)
theorem GV.keep{w w':World}(h:GV w)(hb:Below w.heap.size w w'):GV w':=⟨h.wd.kept hb,h.wy.kept hb⟩
theorem GV.kept{w w':World}(h:GV w)(hb:Below w.heap.size w w'):GV w':=h.keep hb
theorem GV.two{w:World}(h:GV w):1<w.heap.size:=by
 have:=h.wd.lt;have:=h.wy.lt;omega
structure aT where
 N:Int
 k:Int
 V:Int
 M:Int
 xs:List Nat
 L:Int
 ys:List Nat
 S:List Int
 T:List Int
def fg(w:World)(cs:List Value)(a:aT):Prop:=∃ao cap qo dap so sc tO tc,cs=[.int .i64 a.N,.int .i64 a.k,.int .i64 a.V,.int .i64 a.M,.slice ao a.xs.length cap,.int .i64 a.L,.slice qo a.ys.length dap,.slice so a.S.length sc,.slice tO a.T.length tc]/\(aD a.N/\aD a.k/\aD a.V/\aD a.M/\aD a.L/\fH a.S/\fH a.T)/\Wd w ao a.xs/\aA a.xs/\a.xs.length<=cap/\Wd w qo a.ys/\aA a.ys/\a.ys.length<=dap/\Nd w so a.S/\a.S.length<=sc/\Nd w tO a.T/\a.T.length<=tc
structure br (w:World) (cs:List Value) (a:aT):Prop where
 arg:fg w cs a
 xl:a.xs.length<=1048576
 yl:a.ys.length<=1048576
 sl:a.S.length<=1048576
 tl:a.T.length<=1048576
 gv:GV w
theorem fg.keep{w w':World}{cs:List Value}{a:aT}(h:fg w cs a)(hb:Below w.heap.size w w'):fg w' cs a:=by
 obtain⟨ao,cap,qo,dap,so,sc,tO,tc,e,f,a1,a2,a3,a4,a5,a6,a7,a8,a9,a10⟩:=h;exact⟨ao,cap,qo,dap,so,sc,tO,tc,e,f,a1.keep hb,a2,a3,a4.keep hb,a5,a6,a7.keep hb,a8,a9.keep hb,a10⟩
theorem br.keep{w w':World}{cs:List Value}{a:aT}(h:br w cs a)(hb:Below w.heap.size w w'):br w' cs a:=⟨h.arg.keep hb,h.xl,h.yl,h.sl,h.tl,h.gv.keep hb⟩
theorem fg.len{w:World}{cs:List Value}{a:aT}(h:fg w cs a):(prog.info? 59).map (·.size)=some cs.length:=by
 obtain⟨ao,cap,qo,dap,so,sc,tO,tc,rfl,_⟩:=h;exact kW
theorem fg.nine{w:World}{cs:List Value}{a:aT}(h:fg w cs a):9=cs.length:=by
 obtain⟨ao,cap,qo,dap,so,sc,tO,tc,rfl,_⟩:=h;rfl
theorem fg.one{w:World}{cs:List Value}{a:aT}(h:fg w cs a):cs.toArray.all (·.oneCell')=true:=by
 obtain⟨ao,cap,qo,dap,so,sc,tO,tc,rfl,_⟩:=h;simp[Value.oneCell']
def kOk8(a:aT):Bool:=cM a.N a.k a.V a.M a.xs a.L a.ys a.S a.T
def kBN8(a:aT):Int:=fJ a.N a.k a.V a.M a.xs a.L a.ys a.S a.T
def kBX8(a:aT):List Nat:=dO a.N a.k a.V a.M a.xs a.L a.ys a.S a.T
def kZ8(a:aT):Int:=kj a.N a.k a.V a.M a.xs a.L a.ys a.S a.T
def kB8(N:Int)(xs:List Nat):aT:=⟨fm N xs,fu N xs,fk N xs,fp N xs,dL N xs,fq N xs,dK N xs,dJ N xs,dI N xs⟩
def kE8(N:Int)(xs:List Nat):Int:=kt N xs
theorem nT(a:aT)(h:kOk8 a=true):am (kBN8 a) (kBX8 a)=true:=zH _ _ _ _ _ _ _ _ _ h
theorem pX(a:aT):aA (kBX8 a):=zG _ _ _ _ _ _ _ _ _
theorem br.rin{w:World}{a:aT}{ao:Option Addr}{cap:Nat}{qo:Option Addr}{dap:Nat}{so:Option Addr}{sc:Nat}{tO:Option Addr}{tc:Nat}(xl:a.S.length<=1048576)(yl:a.T.length<=1048576)(h1:Wd w ao a.xs)(h2:aA a.xs)(h3:a.xs.length<=cap)(h4:Wd w qo a.ys)(h5:aA a.ys)(h6:a.ys.length<=dap)(h7:Nd w so a.S)(h8:a.S.length<=sc)(h9:Nd w tO a.T)(h10:a.T.length<=tc):lJ w a.N a.k a.V a.M ao a.xs cap a.L qo a.ys dap so a.S sc tO a.T tc:=
 ⟨h1,h2,h3,h4,h5,h6,h7,xl,h8,h9,yl,h10⟩
theorem sF(cs:List Value)(a:aT)(w:World)(h:br w cs a):
  Calls prog 169 #[.agg cs.toArray] w fun e w'=>∃bo bc,e=.returned (.tuple #[.agg #[.int .i64 (kBN8 a),.slice bo (kBX8 a).length bc],.bool (kOk8 a)])/\Wd w' bo (kBX8 a)/\(kBX8 a).length<=bc/\Below w.heap.size w w':=by
 obtain⟨⟨ao,cap,qo,dap,so,sc,tO,tc,rfl,_,a1,a2,a3,a4,a5,a6,a7,a8,a9,a10⟩,_,_,sl,tl⟩:=h
 exact zJ a.N a.k a.V a.M ao a.xs cap a.L qo a.ys dap so a.S sc tO a.T tc w (br.rin sl tl a1 a2 a3 a4 a5 a6 a7 a8 a9 a10)
theorem zM(cs:List Value)(a:aT)(w:World)(h:br w cs a):
  Qq 119 #[.agg cs.toArray] w (.bool (kOk8 a)):=by
 have W:=fun(w0:World) (hb:Below w.heap.size w w0)=>sF cs a w0 (h.keep hb);obtain⟨⟨ao,cap,qo,dap,so,sc,tO,tc,rfl,_⟩,_⟩:=h
 exact zN _ _ _ _ _ _ _ _ _ (kOk8 a) (kBN8 a) (kBX8 a) w (pX a) (nT a) W
theorem zK(cs:List Value)(a:aT)(w:World)(h:br w cs a):
  Qq 72 #[.agg cs.toArray] w (.int .i64 (kZ8 a)):=by
 have C:=fun(w0:World) (hb:Below w.heap.size w w0)=>zM cs a w0 (h.keep hb);obtain⟨⟨ao,cap,qo,dap,so,sc,tO,tc,rfl,_⟩,_,_,sl,tl⟩:=h;obtain⟨N,k,V,M,xs,L,ys,S,T⟩:=a;dsimp only at *
 obtain⟨Z,hZ⟩:∃Z,Hid (Z=kZ8 ⟨N,k,V,M,xs,L,ys,S,T⟩):=⟨_,rfl⟩;rw[<-hZ.out]
 obtain⟨W,hW⟩:∃W,W=w.alloc (.cells #[.int .i64 N,.int .i64 k,.int .i64 V,.int .i64 M,.slice ao xs.length cap,.int .i64 L,.slice qo ys.length dap,.slice so S.length sc,.slice tO T.length tc] 59):=⟨_,rfl⟩
 have bW:=ba hW;have B1:=bE hW
 have CH:Hid (Qz w 119 #[.agg #[.int .i64 N,.int .i64 k,.int .i64 V,.int .i64 M,.slice ao xs.length cap,.int .i64 L,.slice qo ys.length dap,.slice so S.length sc,.slice tO T.length tc]] (.bool (kOk8 ⟨N,k,V,M,xs,L,ys,S,T⟩))):=C
 clear C;cases hk:kOk8 ⟨N,k,V,M,xs,L,ys,S,T⟩with
 | false=>
  rw[hk]at CH
  have E:Hid (Z=0):=by
   show Z=0;rw[hZ.out];unfold kZ8 kj;rw[show cM N k V M xs L ys S T=false from hk];rfl
  clear hk hZ;go_enter func72,ntmps72;go_wp2_with fail;rw[<-hW];refine mr (CH.out _ bW) fun w1 hb=>?_;have bw1:=bg bW hb;clear hW;go_wp2;go_ret;rw[E.out];exact⟨rfl,bw1⟩
 | true=>
  rw[hk]at CH
  have E:Hid (Z=M+L+64*(S.length:Int)):=by
   show Z=_;rw[hZ.out];unfold kZ8 kj;rw[show cM N k V M xs L ys S T=true from hk];rfl
  obtain⟨_,i2,i3,_⟩:=kA N k V M xs L ys S T hk;obtain⟨_,_,_,_,_,m1,m2,_⟩:=dP k V M xs i2;obtain⟨l1,l2,_,_⟩:=bj L ys i3;clear hk hZ;go_enter func72,ntmps72;go_wp2_with fail
  rw[<-hW];refine mr (CH.out _ bW) fun w1 hb=>?_;have bw1:=bg bW hb;replace B1:=B1.kept hb;have r3:=B1.cell 3 rfl;have r5:=B1.cell 5 rfl;have r7:=B1.cell 7 rfl;clear hW hb;go_wp2;go_ret
  rw[E.out];exact⟨rfl,bw1⟩
theorem Bs(m:Nat)(f:Nat->Bool)(G:Nat)(hG:G<=1048576):fH (da m f G):=by
 intro i;by_cases c:i<G
 .unfold da;rw[i_ _ _ _ c];have:=qE m f (8*i);omega
 .unfold gi;rw[List.getD_eq_getElem?_getD,List.getElem?_eq_none (by rw[jT];omega)];decide
theorem As(m:Nat)(f:Nat->Bool)(G:Nat)(hG:G<=1048576):fH (c_ m f G):=by
 intro i;by_cases c:i<G
 .unfold c_;rw[i_ _ _ _ c];have:=jE m f (8*i);omega
 .unfold gi;rw[List.getD_eq_getElem?_getD,List.getElem?_eq_none (by rw[jS];omega)];decide
theorem jd:aA []:=fun i=>by unfold gt;simp
theorem ln:fH []:=fun i=>by unfold gi;simp
theorem RO.ki{base:Nat}{w:World}{N:Int}{xs:List Nat}{bo:Option Addr}{bc:Nat}{qo:Option Addr}{qc:Nat}{so:Option Addr}{sc:Nat}{tO:Option Addr}{tc:Nat}(h:RO base w (dL N xs) (dK N xs) (dJ N xs) (dI N xs) bo bc qo qc so sc tO tc)(G:GV w):
  br w [.int .i64 (fm N xs),.int .i64 (fu N xs),.int .i64 (fk N xs),.int .i64 (fp N xs),.slice bo (dL N xs).length bc,.int .i64 (fq N xs),.slice qo (dK N xs).length qc,.slice so (dJ N xs).length sc,.slice tO (dI N xs).length tc] (kB8 N xs):=by
 cases hk:am N xs with
 | false=>
  have e1:fm N xs=0:=by unfold fm;rw[hk];rfl
  have e2:fu N xs=0:=by unfold fu;rw[hk];rfl
  have e3:fk N xs=0:=by unfold fk;rw[hk];rfl
  have e4:fp N xs=0:=by unfold fp;rw[hk];rfl
  have e5:dL N xs=[]:=by unfold dL;rw[hk];rfl
  have e6:fq N xs=0:=by unfold fq;rw[hk];rfl
  have e7:dK N xs=[]:=by unfold dK;rw[hk];rfl
  have e8:dJ N xs=[]:=by unfold dJ;rw[hk];rfl
  have e9:dI N xs=[]:=by unfold dI;rw[hk];rfl
  unfold kB8;rw[e5,e7,e8,e9]at h;rw[e1,e2,e3,e4,e5,e6,e7,e8,e9];have z:aD 0:=by unfold aD;decide
  exact⟨⟨bo,bc,qo,qc,so,sc,tO,tc,rfl,⟨z,z,z,z,z,ln,ln⟩,h.c,jd,h.cl,h.o,jd,h.ol,h.s,h.sl,h.t,h.tl⟩,Nat.zero_le _,Nat.zero_le _,Nat.zero_le _,Nat.zero_le _,G⟩
 | true=>
  obtain⟨h0,h1,_,_⟩:=bj N xs hk;have e1:fm N xs=N:=by unfold fm;rw[hk];rfl
  have e2:fu N xs=(nb N.toNat:Int):=by unfold fu;rw[hk];rfl
  have e3:fk N xs=4:=by unfold fk;rw[hk];rfl
  have e4:fp N xs=(nb N.toNat:Int)*4:=by unfold fp;rw[hk];rfl
  have e5:dL N xs=rC N.toNat (bitAt xs):=by unfold dL;rw[hk];rfl
  have e6:fq N xs=(bat N.toNat (bitAt xs) (nb N.toNat):Int):=by unfold fq;rw[hk];rfl
  have e7:dK N xs=rO N.toNat (bitAt xs):=by unfold dK;rw[hk];rfl
  have e8:dJ N xs=rS N.toNat (bitAt xs):=by unfold dJ;rw[hk];rfl
  have e9:dI N xs=rT N.toNat (bitAt xs):=by unfold dI;rw[hk];rfl
  unfold kB8;rw[e5,e7,e8,e9]at h;rw[e1,e2,e3,e4,e5,e6,e7,e8,e9];have hn:=iD N.toNat (by omega);have hb:=jE N.toNat (bitAt xs) (nb N.toNat);have hg:gN N.toNat<=8739:=by unfold gN;omega
  have lC:(rC N.toNat (bitAt xs)).length<=1048576:=by unfold rC mkS;rw[cP,dW];omega
  have lO:(rO N.toNat (bitAt xs)).length<=1048576:=by unfold rO aB;rw[cP,iX];omega
  have lS:(rS N.toNat (bitAt xs)).length<=1048576:=by unfold rS;rw[jT];omega
  have lT:(rT N.toNat (bitAt xs)).length<=1048576:=by unfold rT;rw[jS];omega
  have hg2:gN N.toNat<=1048576:=by omega
  have fS:fH (rS N.toNat (bitAt xs)):=by unfold rS;exact Bs _ _ _ hg2
  have fT:fH (rT N.toNat (bitAt xs)):=by unfold rT;exact As _ _ _ hg2
  have fC:aA (rC N.toNat (bitAt xs)):=by unfold rC mkS;exact cY _ _
  have fO:aA (rO N.toNat (bitAt xs)):=by unfold rO aB;exact cY _ _
  generalize rC N.toNat (bitAt xs)=C at *;generalize rO N.toNat (bitAt xs)=O at *;generalize rS N.toNat (bitAt xs)=S at *;generalize rT N.toNat (bitAt xs)=T at *;generalize bat N.toNat (bitAt xs) (nb N.toNat)=L at *
  generalize nb N.toNat=k at *;have n1:aD N:=⟨by omega,by omega⟩;have n2:aD (k:Int):=⟨by omega,by omega⟩;have n3:aD 4:=by unfold aD;decide
  have n4:aD ((k:Int)*4):=⟨by omega,by omega⟩;have n5:aD (L:Int):=⟨by omega,by omega⟩
  exact⟨⟨bo,bc,qo,qc,so,sc,tO,tc,rfl,⟨n1,n2,n3,n4,n5,fS,fT⟩,h.c,fC,h.cl,h.o,fO,h.ol,h.s,h.sl,h.t,h.tl⟩,lC,lO,lS,lT,G⟩
theorem RO.nf{base:Nat}{w:World}{C O:List Nat}{S T:List Int}{bo:Option Addr}{bc:Nat}{qo:Option Addr}{qc:Nat}{so:Option Addr}{sc:Nat}{tO:Option Addr}{tc:Nat}{c0 c1 c2 c3 c4 c5 c6:Value}{n m:Nat}(h:RO base w C O S T bo bc qo qc so sc tO tc):NF base 7 [c0,c1,c2,c3,c4,c5,c6,.slice so n sc,.slice tO m tc]:=
 cW h.sn h.tn
theorem zP(N:Int)(ao:Option Addr)(xs:List Nat)(cap:Nat)(w:World)(hx:Wd w ao xs)(hf:aA xs)(G:GV w):
  Calls prog 62 #[.agg #[.int .i64 N,.slice ao xs.length cap]] w fun e w'=>∃cs:List Value,e=.returned (.tuple #[.agg cs.toArray,.int .i64 (kE8 N xs)])/\br w' cs (kB8 N xs)/\NF w.heap.size 7 cs/\Below w.heap.size w w':=by
 refine(zQ N ao xs cap w hx hf).mono ?_;rintro e w' ⟨bo,bc,qo,qc,so,sc,tO,tc,rfl,ho,hb⟩;exact⟨_,rfl,ho.ki (G.keep hb),ho.nf,hb⟩
end Go.Proofs.YtleegaihbgbcjabGreatDoor
namespace Go.Proofs.YtleegaihbgbcjabGreatDoor
open Num Bit
def plc(f:Nat->Bool)(n:Nat):List Nat:=(List.range n).filter f
theorem jL(f:Nat->Bool)(n:Nat):plc f (n+1)=plc f n++if f n then [n]else []:=by
 unfold plc;rw[List.range_succ,List.filter_append,List.filter_cons];cases f n<;>simp
theorem sU(f:Nat->Bool)(n:Nat):(plc f n).length<=n:=by
 have:=List.length_filter_le f (List.range n);rw[List.length_range]at this;exact this
theorem tN(f:Nat->Bool)(n i:Nat):i∈plc f n↔i<n/\f i=true:=by
 unfold plc;rw[List.mem_filter,List.mem_range]
def bi(l:List Nat)(n:Nat):Prop:=(∀i,i<l.length->gt l i<n)/\∀i,i+1<l.length->gt l i<gt l (i+1)
theorem ju(l m:List Nat)(i:Nat)(h:i<l.length):gt (l++m) i=gt l i:=by
 unfold gt;rw[List.getD_eq_getElem?_getD,List.getD_eq_getElem?_getD,List.getElem?_append_left h]
theorem kY(l:List Nat)(v:Nat):gt (l++[v]) l.length=v:=by
 unfold gt;rw[List.getD_eq_getElem?_getD,List.getElem?_append_right (Nat.le_refl _),Nat.sub_self];rfl
theorem bi.snoc{l:List Nat}{n v:Nat}(h:bi l n)(hv:v<n)(hl:0<l.length->gt l (l.length-1)<v):bi (l++[v]) n:=by
 constructor
 .intro i hi;rw[List.length_append,List.length_singleton]at hi;by_cases c:i<l.length
  .rw[ju l _ i c];exact h.1 i c
  .obtain rfl:i=l.length:=by omega
   rw[kY];exact hv
 .intro i hi;rw[List.length_append,List.length_singleton]at hi;by_cases c:i+1<l.length
  .rw[ju l _ i (by omega),ju l _ (i+1) c];exact h.2 i c
  .have e:i+1=l.length:=by omega
   rw[ju l _ i (by omega),e,kY];have:=hl (by omega);rw[show l.length-1=i by omega]at this;exact this
theorem bi.more{l:List Nat}{n m:Nat}(h:bi l n)(hm:n<=m):bi l m:=⟨fun i hi=>Nat.lt_of_lt_of_le (h.1 i hi) hm,h.2⟩
theorem bi.step{l:List Nat}{n:Nat}(h:bi l n):∀d i,i+d<l.length->gt l i+d<=gt l (i+d):=by
 intro d;induction d with
 | zero=>intro i _;exact Nat.le_refl _
 | succ d ih=>
  intro i hi;have h1:=ih i (by omega);have h2:=h.2 (i+d) (by omega);rw[show i+(d+1)=i+d+1 by omega];omega
theorem bi.lt{l:List Nat}{n:Nat}(h:bi l n){i j:Nat}(hij:i<j)(hj:j<l.length):gt l i<gt l j:=by
 have:=h.step (j-i) i (by omega);rw[show i+(j-i)=j by omega]at this;omega
theorem bi.len{l:List Nat}{n:Nat}(h:bi l n):l.length<=n:=by
 by_cases c:l.length=0
 .omega
 .have:=h.step (l.length-1) 0 (by omega);have:=h.1 (0+(l.length-1)) (by omega);omega
theorem ii(f:Nat->Bool)(n:Nat):bi (plc f n) n:=by
 induction n with
 | zero=>exact⟨fun i hi=>absurd hi (by simp[plc]),fun i hi=>absurd hi (by simp[plc])⟩
 | succ n ih=>
  rw[jL];cases h:f n with
  | false=>simp only[Bool.false_eq_true,if_false,List.append_nil];exact ih.more (by omega)
  | true=>
   simp only[if_true];exact(ih.more (by omega)).snoc (by omega) (fun h0=>ih.1 _ (by omega))
def isIn(l:List Nat)(j:Nat):Bool:=(List.range l.length).any fun i=>gt l i==j
theorem gw(l:List Nat)(j:Nat):isIn l j=true↔∃i,i<l.length/\gt l i=j:=by
 unfold isIn;rw[List.any_eq_true];constructor
 .rintro⟨i,hi,he⟩;exact⟨i,List.mem_range.1 hi,by simpa using he⟩
 .rintro⟨i,hi,he⟩;exact⟨i,List.mem_range.2 hi,by simpa using he⟩
theorem nU(l:List Nat)(v j:Nat):isIn (l++[v]) j=(isIn l j||v==j):=by
 rw[Bool.eq_iff_iff,gw,Bool.or_eq_true,gw,beq_iff_eq];constructor
 .rintro⟨i,hi,he⟩;rw[List.length_append,List.length_singleton]at hi;by_cases c:i<l.length
  .rw[ju l _ i c]at he;exact .inl ⟨i,c,he⟩
  .obtain rfl:i=l.length:=by omega
   rw[kY]at he;exact .inr he
 .rintro(⟨i,hi,he⟩ | he)
  .exact⟨i,by rw[List.length_append];omega,by rw[ju l _ i hi];exact he⟩
  .exact⟨l.length,by simp,by rw[kY];exact he⟩
theorem nW(l:List Nat)(i:Nat)(h:i<l.length):isIn l (gt l i)=true:=(gw l _).2 ⟨i,h,rfl⟩
theorem tP(l:List Nat)(j:Nat):isIn l j=true↔j∈l:=by
 rw[gw];constructor
 .rintro⟨i,hi,rfl⟩;unfold gt;rw[List.getD_eq_getElem?_getD,List.getElem?_eq_getElem hi];exact List.getElem_mem hi
 .intro h;obtain⟨i,hi,he⟩:=List.getElem_of_mem h;exact⟨i,hi,by unfold gt;rw[List.getD_eq_getElem?_getD,List.getElem?_eq_getElem hi];exact he⟩
theorem yM{l m:List Nat}{n:Nat}(h:bi l n)(k:bi m n)(e:∀j,isIn l j=isIn m j):l=m:=by
 have key:∀{l m:List Nat},bi l n->bi m n->(∀j,isIn l j=isIn m j)->∀i,i<l.length->i<m.length/\gt l i=gt m i:=by
  intro l m h k e i;induction i using Nat.strongRecOn with
  | _ i ih=>
   intro hi;have h1:=nW l i hi;rw[e,gw]at h1;obtain⟨j,hj,hje⟩:=h1
   have hij:i<=j:=by
    refine Nat.le_of_not_lt fun c=>?_;have:=ih j c (by omega);have:=h.lt c hi;omega
   refine⟨by omega,?_⟩;by_cases c:i=j
   .subst c;exact hje.symm
   .have h4:=nW m i (by omega);rw[<-e,gw]at h4;obtain⟨k',hk,hke⟩:=h4;have hk2:=k.lt (show i<j by omega) hj
    have hki:k'<i:=by
     refine Nat.lt_of_not_le fun c2=>?_;by_cases c3:k'=i
     .subst c3;omega
     .have:=h.lt (show i<k' by omega) hk;omega
    have:=ih k' hki hk;have:=k.lt hki (show i<m.length by omega);omega
 have hl:=fun i hi=>key h k e i hi;have hm:=fun i hi=>key k h (fun j=>(e j).symm) i hi
 have hlen:l.length=m.length:=by
  by_cases c:l.length<=m.length
  .by_cases c2:l.length=m.length
   .exact c2
   .have:=(hm l.length (by omega)).1;omega
  .have:=(hl m.length (by omega)).1;omega
 exact Bit.list_ext _ _ hlen (fun i hi=>(hl i hi).2)
theorem sT{l:List Nat}{n:Nat}(h:bi l n):plc (isIn l) n=l:=by
 refine yM (ii _ n) h fun j=>?_;rw[Bool.eq_iff_iff,tP,tN,gw];constructor
 .rintro⟨_,h2⟩;exact h2
 .rintro⟨i,hi,rfl⟩;exact⟨h.1 i hi,i,hi,rfl⟩
def wdF(n m:Nat):Nat:=if m=0 then 0 else Go.bitLen (n/m)-1
theorem fW(n m:Nat)(h:n<2^21):wdF n m<=20:=by
 unfold wdF;split
 .omega
 .have h1:n/m<=n:=Nat.div_le_self n m;have:=io (n/m) 21 (by omega);omega
def hiP(l:List Nat)(w:Nat):List Nat:=(List.range l.length).map fun i=>gt l i/2^w+i
def hiN(l:List Nat)(n w:Nat):Nat:=l.length+n/2^w+1
def loP(l:List Nat)(w:Nat):List Nat:=if w=0 then []else l.map (·%2^w)
theorem kP(l:List Nat)(w:Nat):(hiP l w).length=l.length:=by simp[hiP]
theorem kX(l:List Nat)(w i:Nat)(h:i<l.length):gt (hiP l w) i=gt l i/2^w+i:=by
 unfold hiP;show gt _ i=_;unfold gt;rw[List.getD_eq_getElem?_getD,List.getElem?_map,List.getElem?_range h];rfl
theorem EF(l:List Nat)(f:Nat->Nat)(i:Nat)(h:i<l.length):gt (l.map f) i=f (gt l i):=by
 unfold gt;rw[List.getD_eq_getElem?_getD,List.getD_eq_getElem?_getD,List.getElem?_map,List.getElem?_eq_getElem h];rfl
theorem iW(l:List Nat)(w:Nat)(h:0<w):(loP l w).length=l.length:=by unfold loP;rw[if_neg (by omega),List.length_map]
theorem n_(l:List Nat)(w i:Nat)(hw:0<w)(h:i<l.length):gt (loP l w) i=gt l i%2^w:=by unfold loP;rw[if_neg (by omega),EF l _ i h]
theorem uD{l:List Nat}{n:Nat}(w:Nat)(h:bi l n):bi (hiP l w) (hiN l n w):=by
 constructor
 .intro i hi;rw[kP]at hi;rw[kX l w i hi];have:=Nat.div_le_div_right (c:=2^w) (Nat.le_of_lt (h.1 i hi));unfold hiN;omega
 .intro i hi;rw[kP]at hi;rw[kX l w i (by omega),kX l w (i+1) hi];have:=Nat.div_le_div_right (c:=2^w) (Nat.le_of_lt (h.2 i hi));omega
def dX(w:Nat)(lo hi:List Nat)(q:Nat):Nat:=(gt hi q-q)*2^w+if w=0 then 0 else gt lo q%2^w
def bJ(n w:Nat)(lo hi:List Nat):Nat->Option (List Nat)
 | 0=>some []
 | q+1=>match bJ n w lo hi q with
  | none=>none
  | some out=>if n<=dX w lo hi q\/(0<q/\dX w lo hi q<=gt out (q-1))then none else some (out++[dX w lo hi q])
theorem lp(n w:Nat)(lo hi:List Nat):∀q out,bJ n w lo hi q=some out->out.length=q/\bi out n:=by
 intro q;induction q with
 | zero=>intro out h;simp only[bJ,Option.some.injEq]at h;subst h;exact⟨rfl,fun i hi=>absurd hi (by simp),fun i hi=>absurd hi (by simp)⟩
 | succ q ih=>
  intro out h;rw[bJ]at h;cases hq:bJ n w lo hi q with
  | none=>rw[hq]at h;cases h
  | some o=>
   rw[hq]at h;obtain⟨h1,h2⟩:=ih o hq;simp only at h;split at h
   .cases h
   .rename_i hn;obtain rfl:=Option.some.inj h;refine⟨by rw[List.length_append,h1];rfl,h2.snoc (by omega) fun h0=>?_⟩;rw[h1]at h0⊢;omega
theorem u9(n w:Nat)(lo hi:List Nat)(q:Nat)(h:bJ n w lo hi q=none):∀d,bJ n w lo hi (q+d)=none:=by
 intro d;induction d with
 | zero=>exact h
 | succ d ih=>rw[show q+(d+1)=q+d+1 by omega,bJ,ih]
theorem Fb{l:List Nat}{n:Nat}(w q:Nat)(h:q<l.length):dX w (loP l w) (hiP l w) q=gt l q:=by
 unfold dX;rw[kX l w q h,Nat.add_sub_cancel];by_cases hw:w=0
 .subst hw;simp
 .rw[if_neg hw,n_ l w q (by omega) h,Nat.mod_mod];rw[Nat.mul_comm];exact Nat.div_add_mod _ _
theorem mV(l:List Nat)(q:Nat)(h:q<l.length):l.take (q+1)=l.take q++[gt l q]:=by
 rw[List.take_add_one,List.getElem?_eq_getElem h];unfold gt;rw[List.getD_eq_getElem?_getD,List.getElem?_eq_getElem h];rfl
theorem n6(l:List Nat)(q i:Nat)(h:i<q):gt (l.take q) i=gt l i:=by
 unfold gt;rw[List.getD_eq_getElem?_getD,List.getD_eq_getElem?_getD,List.getElem?_take_of_lt h]
theorem Fz{l:List Nat}{n:Nat}(w:Nat)(h:bi l n):∀q,q<=l.length->bJ n w (loP l w) (hiP l w) q=some (l.take q):=by
 intro q;induction q with
 | zero=>intro _;rfl
 | succ q ih=>
  intro hq;rw[bJ,ih (by omega)];simp only;rw[Fb (n:=n) w q (by omega),if_neg,mV l q (by omega)];rintro(c | ⟨c1,c2⟩)
  .have:=h.1 q (by omega);omega
  .rw[n6 l q (q-1) (by omega)]at c2;have:=h.lt (show q-1<q by omega) (show q<l.length by omega);omega
structure FA where
 N:Int
 M:Int
 k:Int
 V:Int
 LM:Int
 xs:List Nat
 H:Int
 ys:List Nat
def aG(n:Nat)(l:List Nat):FA:=
 ⟨n,l.length,(loP l (wdF n l.length)).length,((max (wdF n l.length) 1:Nat):Int),((loP l (wdF n l.length)).length:Int)*(max (wdF n l.length) 1:Nat),mkS (loP l (wdF n l.length)) (max (wdF n l.length) 1) (loP l (wdF n l.length)).length,hiN l n (wdF n l.length),rowOf (hiN l n (wdF n l.length)) (isIn (hiP l (wdF n l.length)))⟩
def dv(a:FA):Option (List Nat):=
 let hi:=plc (bitAt a.ys) a.H.toNat
 let lo:=(List.range a.k.toNat).map (numAt a.V.toNat a.xs)
 let w:=wdF a.N.toNat a.M.toNat
 if (0<=a.N/\a.N<=1048576/\0<=a.M/\a.M<=a.N)/\aP a.k a.V a.LM a.xs=true/\am a.H a.ys=true/\(hi.length:Int)=a.M/\(w=0\/(lo.length:Int)=a.M)then bJ a.N.toNat w lo hi hi.length else none
theorem Ff(l:List Nat)(W:Nat)(hW:1<=W)(hl:∀i,gt l i<2^W)(i:Nat)(hi:i<l.length):numAt W (mkS l W l.length) i=gt l i:=by
 unfold numAt;refine(je W (gt l i) _ fun k=>?_).symm;by_cases c:k<W
 .unfold mkS
  have e1:(i*W+k)/W=i:=by
   rw[Nat.mul_comm,Nat.mul_add_div (by omega),Nat.div_eq_of_lt c];omega
  have e2:(i*W+k)%W=k:=by rw[Nat.mul_comm,Nat.mul_add_mod,Nat.mod_eq_of_lt c]
  have e3:i*W+k<l.length*W:=by
   have:=kI l.length W i hi;omega
  rw[eQ,e1,e2];simp[c,e3]
 .have:gt l i<2^k:=Nat.lt_of_lt_of_le (hl i) (Nat.pow_le_pow_right (by decide) (by omega));rw[Nat.testBit_lt_two_pow this];simp[c]
theorem Fw(l:List Nat)(W:Nat)(hW:1<=W)(hW2:W<=64)(hl:l.length*W<=1048576):aP (l.length:Int) (W:Int) ((l.length*W:Nat):Int) (mkS l W l.length)=true:=by
 unfold aP;rw[Bool.and_eq_true,decide_eq_true_eq];refine⟨⟨by omega,by omega,by omega,by rw[Int.natCast_mul]⟩,?_⟩;exact fB _ _ hl
theorem nJ(l:List Nat)(w i:Nat):gt (loP l w) i<2^(max w 1):=by
 by_cases hw:w=0
 .subst hw;unfold loP gt;simp
 .by_cases c:i<l.length
  .rw[n_ l w i (by omega) c,show max w 1=w by omega];exact Nat.mod_lt _ (Nat.two_pow_pos _)
  .unfold gt;rw[List.getD_eq_getElem?_getD,List.getElem?_eq_none (by rw[iW l w (by omega)];omega)];exact Nat.two_pow_pos _
theorem mf(l:List Nat)(w:Nat):(loP l w).length<=l.length:=by
 unfold loP;split
 .simp
 .rw[List.length_map];exact Nat.le_refl _
theorem sV(f g:Nat->Bool)(n:Nat)(h:∀i,i<n->f i=g i):plc f n=plc g n:=by
 unfold plc;exact List.filter_congr fun i hi=>h i (List.mem_range.1 hi)
theorem Dv(lo:List Nat)(V:Nat)(hV:1<=V)(hl:∀i,gt lo i<2^V):(List.range lo.length).map (numAt V (mkS lo V lo.length))=lo:=by
 refine Bit.list_ext _ _ (by simp) fun i hi=>?_;rw[List.length_map,List.length_range]at hi
 have e:gt ((List.range lo.length).map (numAt V (mkS lo V lo.length))) i=numAt V (mkS lo V lo.length) i:=by
  unfold gt;rw[List.getD_eq_getElem?_getD,List.getElem?_map,List.getElem?_range hi];rfl
 rw[e];exact Ff lo V hV hl i hi
theorem FD{l:List Nat}{n:Nat}(h:bi l n)(hn:n<=1048576)(h1:hiN l n (wdF n l.length)<=1048576)(h2:(loP l (wdF n l.length)).length*max (wdF n l.length) 1<=1048576):dv (aG n l)=some l:=by
 have hl:=h.len;have hw:=fW n l.length (by omega)
 have e1:plc (bitAt (aG n l).ys) (aG n l).H.toNat=hiP l (wdF n l.length):=by
  show plc (bitAt (rowOf _ _)) (hiN l n (wdF n l.length):Int).toNat=_;rw[Int.toNat_natCast,sV _ (isIn (hiP l (wdF n l.length))) _ (fun i hi=>by rw[eQ];simp[hi])];exact sT (uD _ h)
 have e2:(List.range (aG n l).k.toNat).map (numAt (aG n l).V.toNat (aG n l).xs)=loP l (wdF n l.length):=by
  show(List.range ((loP l (wdF n l.length)).length:Int).toNat).map (numAt ((max (wdF n l.length) 1:Nat):Int).toNat _)=_;rw[Int.toNat_natCast,Int.toNat_natCast];exact Dv _ _ (by omega) (nJ l _)
 have e3:aP (aG n l).k (aG n l).V (aG n l).LM (aG n l).xs=true:=by
  have:=Fw (loP l (wdF n l.length)) (max (wdF n l.length) 1) (by omega) (by omega) h2;rw[Int.natCast_mul]at this;exact this
 have e4:am (aG n l).H (aG n l).ys=true:=fB _ _ h1;have e5:(aG n l).N.toNat=n:=rfl;have e6:(aG n l).M.toNat=l.length:=rfl;unfold dv;simp only[e1,e2,e3,e4,e5,e6,kP];rw[if_pos]
 .rw[Fz _ h l.length (Nat.le_refl _),List.take_of_length_le (Nat.le_refl _)]
 .refine⟨?_,trivial,trivial,rfl,?_⟩
  .show(0:Int)<=(n:Int)/\(n:Int)<=1048576/\(0:Int)<=(l.length:Int)/\(l.length:Int)<=(n:Int);omega
  .by_cases c:wdF n l.length=0
   .exact .inl c
   .right;rw[iW l _ (by omega)];rfl
theorem oC(a b u v t:Nat)(hu:u<2^t)(hv:v<2^t):(2^t*a+u)&&&(2^t*b+v)=2^t*(a&&&b)+(u&&&v):=by
 have huv:(u&&&v)<2^t:=Nat.lt_of_le_of_lt Nat.and_le_left hu;refine Nat.eq_of_testBit_eq fun j=>?_
 rw[Nat.testBit_and,Nat.testBit_two_pow_mul_add a hu,Nat.testBit_two_pow_mul_add b hv,Nat.testBit_two_pow_mul_add (a&&&b) huv];split<;>simp[Nat.testBit_and]
theorem BA(y:Nat)(h:y≠0):∃s d,y=2^s*(2*d+1):=by
 induction y using Nat.strongRecOn with
 | _ y ih=>
  by_cases c:y%2=1
  .exact⟨0,y/2,by omega⟩
  .obtain⟨s,d,e⟩:=ih (y/2) (by omega) (by omega);refine⟨s+1,d,?_⟩;rw[Nat.pow_succ,Nat.mul_right_comm,<-e];omega
theorem Ii(d:Nat):(2*d+1)&&&(2*d)=2*d:=by
 have:=oC d d 1 0 1 (by decide) (by decide);rw[Nat.pow_one]at this;simpa using this
theorem Ie(s d:Nat):(2^s*(2*d+1))&&&(2^s*(2*d+1)-1)=2^(s+1)*d:=by
 have hp:=Nat.two_pow_pos s
 have e:2^s*(2*d+1)-1=2^s*(2*d)+(2^s-1):=by
  rw[Nat.mul_add];omega
 rw[e];have:=oC (2*d+1) (2*d) 0 (2^s-1) s hp (by omega);rw[Nat.add_zero,Ii,Nat.zero_and]at this;rw[this,Nat.pow_succ,Nat.mul_assoc,Nat.add_zero]
theorem Ij(d k:Nat)(h:d<2^k):d&&&(2^k-(d+1))=0:=by
 refine Nat.eq_of_testBit_eq fun j=>?_;rw[Nat.testBit_and,Nat.testBit_two_pow_sub_succ h,Nat.zero_testBit];cases d.testBit j<;>simp
theorem Ig(s d:Nat)(h:2^s*(2*d+1)<18446744073709551616):(2^s*(2*d+1))&&&(18446744073709551616-2^s*(2*d+1))=2^s:=by
 have hp:=Nat.two_pow_pos s
 have hs:s<64:=by
  refine Nat.lt_of_not_le fun c=>?_;have h1:2^64<=2^s:=Nat.pow_le_pow_right (by decide) c;have h2:2^s*1<=2^s*(2*d+1):=Nat.mul_le_mul_left _ (by omega);omega
 obtain⟨k,hk⟩:∃k,64=s+(k+1):=⟨63-s,by omega⟩
 have e64:18446744073709551616=2^s*(2*2^k):=by
  rw[<-Nat.pow_succ',<-Nat.pow_add,<-hk]
 have hd:d<2^k:=by
  rw[e64]at h;have:=Nat.lt_of_mul_lt_mul_left h;omega
 rw[e64,<-Nat.mul_sub];have e2:2*2^k-(2*d+1)=2*(2^k-(d+1))+1:=by omega
 rw[e2];have h3:=oC (2*d+1) (2*(2^k-(d+1))+1) 0 0 s hp hp;have h4:=oC d (2^k-(d+1)) 1 1 1 (by decide) (by decide);rw[Nat.pow_one,Ij d k hd]at h4
 simp only[Nat.add_zero,Nat.and_zero,Nat.mul_zero,Nat.zero_add]at h3 h4;rw[h3,h4];simp
def ef(x p:Nat):Nat:=2^p*(x/2^p)
theorem yU(x p:Nat):ef x p<=x:=Nat.mul_div_le x (2^p)
theorem yT(x:Nat):ef x 0=x:=by unfold ef;simp
theorem yS(x p:Nat)(h:ef x p=0)(k:Nat)(hk:p<=k):x.testBit k=false:=by
 unfold ef at h
 have h0:x/2^p=0:=by
  rcases Nat.mul_eq_zero.1 h with c | c
  .have:=Nat.two_pow_pos p;omega
  .exact c
 have hx:x<2^p:=Nat.lt_of_div_eq_zero (Nat.two_pow_pos p) h0;exact Nat.testBit_lt_two_pow (Nat.lt_of_lt_of_le hx (Nat.pow_le_pow_right (by decide) hk))
theorem yR(x p:Nat)(hx:x<18446744073709551616)(h:ef x p≠0):∃t,p<=t/\t<64/\x.testBit t=true/\(∀k,p<=k->k<t->x.testBit k=false)/\(ef x p&&&(18446744073709551616-ef x p))=2^t/\(ef x p&&&(ef x p-1))=ef x (t+1):=by
 have h0:x/2^p≠0:=fun c=>h (by unfold ef;rw[c,Nat.mul_zero]);obtain⟨s,d,e⟩:=BA _ h0
 have er:ef x p=2^(p+s)*(2*d+1):=by
  unfold ef;rw[e,Nat.pow_add,Nat.mul_assoc]
 have hr:=yU x p
 have tb:∀k,p<=k->x.testBit k=(x/2^p).testBit (k-p):=fun k hk=>by
  rw[Nat.testBit_div_two_pow,Nat.sub_add_cancel hk]
 have ht:x.testBit (p+s)=true:=by
  rw[tb _ (by omega),e,Nat.add_sub_cancel_left,Nat.testBit_two_pow_mul];simp
 have h64:p+s<64:=by
  refine Nat.lt_of_not_le fun c=>?_;rw[Nat.testBit_lt_two_pow (Nat.lt_of_lt_of_le (show x<2^64 from hx) (Nat.pow_le_pow_right (by decide) c))]at ht;cases ht
 refine⟨p+s,by omega,h64,ht,fun k h1 h2=>?_,?_,?_⟩
 .rw[tb k h1,e,Nat.testBit_two_pow_mul];have:¬s<=k-p:=by omega
  simp[this]
 .rw[er];exact Ig _ _ (by omega)
 .rw[er,Ie];unfold ef;congr 1;rw[show p+s+1=p+(s+1)by omega,Nat.pow_add,<-Nat.div_div_eq_div_mul,e,Nat.pow_succ,<-Nat.div_div_eq_div_mul,Nat.mul_div_cancel_left _ (Nat.two_pow_pos s)];omega
theorem pf(f:Nat->Bool)(a d:Nat)(h:∀k,a<=k->k<a+d->f k=false):plc f (a+d)=plc f a:=by
 induction d with
 | zero=>rfl
 | succ d ih=>
  rw[show a+(d+1)=a+d+1 by omega,jL,h (a+d) (by omega) (by omega),ih (fun k h1 h2=>h k h1 (by omega))];simp
theorem AE(f:Nat->Bool)(a d:Nat):∃l,plc f (a+d)=plc f a++l:=by
 induction d with
 | zero=>exact⟨[],by simp⟩
 | succ d ih=>
  obtain⟨l,hl⟩:=ih;rw[show a+(d+1)=a+d+1 by omega,jL,hl];exact⟨_,List.append_assoc _ _ _⟩
theorem AD(f:Nat->Bool)(a n:Nat)(ha:a<n)(h:f a=true):(plc f a).length<(plc f n).length/\gt (plc f n) (plc f a).length=a/\(plc f (a+1)).length=(plc f a).length+1:=by
 have h1:plc f (a+1)=plc f a++[a]:=by rw[jL,h];rfl
 obtain⟨l,hl⟩:=AE f (a+1) (n-(a+1));rw[show a+1+(n-(a+1))=n by omega,h1]at hl;refine⟨by rw[hl];simp,?_,by rw[h1];simp⟩;rw[hl,List.append_assoc]
 have:=ju (plc f a++[a]) l (plc f a).length (by simp);rw[kY,List.append_assoc]at this;exact this
theorem qR(xs:List Nat)(j k:Nat)(h:k<64):bitAt xs (64*j+k)=(gt xs j).testBit k:=by
 unfold bitAt;rw[show(64*j+k)/64=j by omega,show(64*j+k)%64=k by omega]
end Go.Proofs.YtleegaihbgbcjabGreatDoor
namespace Go.Proofs.YtleegaihbgbcjabGreatDoor
open Go
section
variable {P:Program} {ops:Array Oper} {Q:Exit->Act->World->Prop} {md:Region.Mode} {S:World->Prop} {ns:List Nat} {F:Fence} {n:Nat}
def nD(ops:Array Oper):Bool:=ops.toList.all fun o=>match o.op with | .defer _=>false | _=>true
theorem pz{j:Nat}{o:Oper}(h:nD ops=true)(hj:ops[j]?=some o):∀c,o.op≠.defer c:=by
 intro c e;unfold nD at h;rw[List.all_eq_true]at h
 have hm:o∈ops.toList:=by
  rw[<-Array.getElem?_toList]at hj;exact List.mem_of_getElem? hj
 have:=h o hm;rw[e]at this;cases this
theorem rn{i:Nat}{o:Oper}{v:Value}{a:Act}{K:Act->World->Prop}{w:World}(hF:∀f,F.fn f)(hi:ops[i]?=some o)(hd:∀c,o.op≠.defer c)(hy:YieldsIf P ops S o v a)(hS:S w)(h:K (a.put o.dst v) w):wpOpIn F n P ops Q i K a w:=by
 unfold wpOpIn;simp only[hi];rcases hy with⟨hw,hv⟩ | ⟨hw,rfl⟩
 .rw[if_pos hw];refine⟨fun f _=>hF f,?_⟩;rw[Oper.semAt_eq _ _ _ hd,hv w hS];exact h
 .rw[if_neg (by rw[hw];simp)];exact⟨fun f _=>hF f,h⟩
theorem wL{j:Nat}{oi oj:Oper}{v:Value}{K:Act->World->Prop}{a:Act}{w:World}(hF:∀f,F.fn f)(hj:ops[j]?=some oj)(hd:∀c,oj.op≠.defer c)(hap:oi.apart ops oj=true)
  (hsi:∀cs b,oi.op≠.select cs b) (hsj:∀cs b,oj.op≠.select cs b) (hQ:∀c a w,Q (.panic c) (a.put oi.dst v) w->Q (.panic c) a w)
  (hy:YieldsIf P ops S oi v a) (h:wpOpIn F n P ops Q j K (a.put oi.dst v) w):
  wpOpIn F n P ops Q j (fun a' w'=>YieldsIf P ops S oi v a'/\K (a'.put oi.dst v) w') a w:=by
 obtain⟨h1,h2,h3⟩:=Oper.apart_spec hap;have keep:∀u,YieldsIf P ops S oi v (a.put oj.dst u):=fun u=>hy.of_same (execOp_put oi hsi a oj.dst u h3) (wanted_put oi a oj.dst u h3)
 have fit:∀u w',K ((a.put oi.dst v).put oj.dst u) w'->YieldsIf P ops S oi v (a.put oj.dst u)/\K ((a.put oj.dst u).put oi.dst v) w':=fun u w' hk=>⟨keep u,by rw[<-Act.put_comm a v u h2];exact hk⟩;unfold wpOpIn at h⊢
 simp only[hj]at h⊢;rw[wanted_put oj a oi.dst v h1]at h;by_cases hw:Region.wanted oj (yielded ops a.tmps)=true
 .rw[if_pos hw]at h⊢;refine⟨fun f _=>hF f,?_⟩;have h:=h.2;rw[Oper.semAt_eq _ _ _ hd,execOp_put oj hsj a oi.dst v h1]at h;rw[Oper.semAt_eq _ _ _ hd];generalize (execOp a.eval oj).run P w=r at h⊢;match r,h with
  | .ok (.value u) w',h=>exact fit u w' h
  | .ok .skip w',h=>exact fit undef w' h
  | .ok (.defer d) w',h=>
   have kd:YieldsIf P ops S oi v { a with defers:=d::a.defers }:=hy.of_same rfl rfl;refine⟨kd.of_same (execOp_put oi hsi _ oj.dst undef h3) (wanted_put oi _ oj.dst undef h3),?_⟩
   rw[<-Act.put_comm _ v undef h2,<-Act.put_defers];exact h
  | .ok (.enter f args) w',h=>
   refine⟨h.1,h.2.mono fun e w2 he=>?_⟩;match e,he with
   | .returned u,he=>exact fit u w2 he
   | .panicked c,he=>exact hQ _ _ _ he
   | .outgrown,he=>exact he
  | .ok (.row row args) w',h=>exact⟨h.1,RowsIn.mono h.2 fun u w2 he=>fit u w2 he⟩
  | .ok (.round l f tmps assign body) w',h=>
   refine⟨h.1,RoundIn.mono h.2 fun e w2 he=>?_⟩;match e,he with
   | .returned u,he=>exact fit u w2 he
   | .panicked c,he=>exact hQ _ _ _ he
   | .outgrown,he=>exact he
  | .halt (.panic u) w',h=>exact hQ _ _ _ h
 .rw[if_neg hw]at h⊢;exact⟨fun f _=>hF f,fit undef w h.2⟩
def aZ(F:Fence)(n:Nat)(P:Program)(md:Region.Mode)(ops:Array Oper)(Q:Exit->Act->World->Prop)(S:World->Prop)(ns:List Nat):Nat->Array Bool->Act->World->Prop
 | 0,l,a,w=>Region.ready md ops l=[]/\Q .normal a w
 | f+1,l,a,w=>(Region.ready md ops l=[]->Q .normal a w)/\∀i∈Region.ready md ops l,wpOpIn F n P ops Q i (fun a' w'=>(i ∉ ns->S w->S w')/\aZ F n P md ops Q S ns f (l.setIfInBounds i true) a' w') a w
theorem aZ.any:∀f l a w,aZ F n P md ops Q S ns f l a w->wpAnyIn F n P md ops Q f l a w
 | 0,_,_,_,h=>h
 | f+1,_,_,_,h=>⟨h.1,fun i hi=>wpOpIn_mono (fun a' w' h'=>aZ.any f _ a' w' h'.2) (h.2 i hi)⟩
theorem aZ.first{i:Nat}{oi:Oper}{v:Value}(hF:∀f,F.fn f)(hi:ops[i]?=some oi)(hsel:Region.noSelect ops=true)(hdef:nD ops=true)(hQ:∀c a w,Q (.panic c) (a.put oi.dst v) w->Q (.panic c) a w)(hw:ns.all (fun n=>iy md ops n i)=true):
  ∀f l a w,(∀j oj,ops[j]?=some oj->j≠i->l.getD j true=false->(∀e∈oj.after,Region.binds md e=true->e.on≠i)->oi.apart ops oj=true)->
   i∈Region.ready md ops l->YieldsIf P ops S oi v a->S w->aZ F n P md ops Q S ns f (l.setIfInBounds i true) (a.put oi.dst v) w->aZ F n P md ops Q S ns (f+1) l a w:=by
 intro f;induction f with
 | zero=>
  intro l a w _ hr hy hS H;refine⟨fun h=>absurd hr (by rw[h];simp),fun j hj=>?_⟩;by_cases c:j=i
  .subst c;exact rn hF hi (pz hdef hi) hy hS ⟨fun _ h=>h,H⟩
  .have h1:=ready_mono hj c;rw[H.1]at h1;exact absurd h1 (by simp)
 | succ f ih=>
  intro l a w hfree hr hy hS H;refine⟨fun h=>absurd hr (by rw[h];simp),fun j hj=>?_⟩;by_cases c:j=i
  .subst c;exact rn hF hi (pz hdef hi) hy hS ⟨fun _ h=>h,H⟩
  have hun:=(mem_ready.1 hr).1;have hjn:j ∉ ns:=fun e=>rz (List.all_eq_true.1 hw j e) hun hj;obtain⟨hjun,oj,hoj,hall⟩:=mem_ready.1 hj
  have hnot:∀e∈oj.after,Region.binds md e=true->e.on≠i:=by
   intro e he hb heq;have h1:=hall e he hb;rw[heq]at h1;rcases Nat.lt_or_ge i l.size with h' | h'
   .simp[h']at hun h1;rw[hun]at h1;cases h1
   .simp[Array.getElem?_eq_none h']at h1
  have h2:=wL hF hoj (pz hdef hoj) (hfree j oj hoj c hjun hnot) (fun cs b=>Region.noSelect_spec hsel i oi cs b hi) (fun cs b=>Region.noSelect_spec hsel j oj cs b hoj) hQ hy (H.2 j (ready_mono hj c))
  refine wpOpIn_mono (fun a' w' h3=>⟨h3.2.1,ih (l.setIfInBounds j true) a' w' ?_ (ready_mono hr (Ne.symm c)) h3.1 (h3.2.1 hjn hS) ?_⟩) h2
  .intro k ok hk hki hku hno;refine hfree k ok hk hki ?_ hno;by_cases e:j=k
   .subst e;exact hjun
   .rw[getD_set_ne true e]at hku;exact hku
  .rw[Array.setIfInBounds_comm _ _ c];exact h3.2.2
theorem aZ.take(i:Nat){oi:Oper}{v:Value}{f:Nat}{l:Array Bool}{a:Act}{w:World}(hF:∀f,F.fn f)(hi:ops[i]?=some oi)(hs:Region.noSelect ops=true)(hdef:nD ops=true)(hf:Region.free md ops l i=true)(hr:(Region.ready md ops l).contains i=true)(hw:ns.all (fun n=>iy md ops n i)=true)
  (hQ:∀c a w,Q (.panic c) (a.put oi.dst v) w->Q (.panic c) a w) (hS:S w) (hy:∀w0,S w0->(execOp a.eval oi).run P w0=.ok (.value v) w0) (hwn:Region.wanted oi (yielded ops a.tmps)=true)
  (h:aZ F n P md ops Q S ns f (l.setIfInBounds i true) (a.put oi.dst v) w):aZ F n P md ops Q S ns (f+1) l a w:=
 aZ.first hF hi hs hdef hQ hw f l a w (Region.free_spec hi hf) (by simpa using hr) (.inl ⟨hwn,hy⟩) hS h
theorem aZ.one(i:Nat){o:Oper}{f:Nat}{l:Array Bool}{a:Act}{w:World}(hF:∀f,F.fn f)(hr:Region.ready md ops l=[i])(ho:ops[i]?=some o)(hd:∀c,o.op≠.defer c)(hwn:Region.wanted o (yielded ops a.tmps)=true)
  (h:∀K:Act->World->Prop,Shut (∀a' w',(i ∉ ns->S w')->aZ F n P md ops Q S ns f (l.setIfInBounds i true) a' w'->K a' w')->o.uponIn F n P a K Q ((execOp a.eval o).run P w)):
  aZ F n P md ops Q S ns (f+1) l a w:=by
 refine⟨fun h0=>absurd (hr.symm.trans h0) (by simp),fun j hj=>?_⟩;rw[hr]at hj;obtain rfl:=List.mem_singleton.1 hj;refine wpOpIn_step ho (fun K hK=>?_);rw[if_pos hwn];refine⟨fun f _=>hF f,?_⟩
 rw[Oper.semAt_eq _ _ _ hd];exact h K (fun a' w' hS hW=>hK a' w' ⟨fun n _=>hS n,hW⟩)
theorem aZ.done{l:Array Bool}{a:Act}{w:World}(hr:Region.ready md ops l=[])(h:Q .normal a w):∀f,aZ F n P md ops Q S ns f l a w
 | 0=>⟨hr,h⟩
 | _+1=>⟨fun _=>h,by rw[hr];simp⟩
theorem oT(ns:List Nat)(S:World->Prop){id:Nat}{a:Act}{w:World}(hm:P.follows .mixedOrders=true)(h:aZ F n P .any ops Q S ns ops.size (Array.replicate ops.size false) a w.drew):(Code.region id ops true).wpIn F n P Q a w:=
 wpIn_region_any hm (aZ.any _ _ _ _ h)
end
open Go Go.RowKit
structure aE (K:Nat->Prop) (W W':World):Prop where
 os:W'.os=W.os
 tape:W'.tape=W.tape
 output:W'.output=W.output
 size:W.heap.size<=W'.heap.size
 same:∀b,K b->b<W.heap.size->W'.heap[b]?=W.heap[b]?
theorem aE.refl(K:Nat->Prop)(W:World):aE K W W:=⟨rfl,rfl,rfl,Nat.le_refl _,fun _ _ _=>rfl⟩
theorem aE.trans{K:Nat->Prop}{a b c:World}(h:aE K a b)(k:aE K b c):aE K a c:=
 ⟨k.os.trans h.os,k.tape.trans h.tape,k.output.trans h.output,Nat.le_trans h.size k.size,fun x hx hl=>(k.same x hx (Nat.lt_of_lt_of_le hl h.size)).trans (h.same x hx hl)⟩
theorem aE.less{K K':Nat->Prop}{a b:World}(h:aE K a b)(hk:∀x,K' x->K x):aE K' a b:=⟨h.os,h.tape,h.output,h.size,fun x hx hl=>h.same x (hk x hx) hl⟩
theorem aE.of{K:Nat->Prop}{a b:World}(h:Below a.heap.size a b):aE K a b:=⟨h.os,h.tape,h.output,h.size,fun x _ hl=>h.block x hl⟩
theorem aE.setCell{K:Nat->Prop}{a b:World}(h:aE K a b){p:Addr}(hp:¬K p.block)(v:Value):aE K a (b.setCell p v):=
 h.trans ⟨rfl,rfl,rfl,by simp[World.setCell],fun x hx _=>Below.heap_setCell _ _ _ _ (fun e=>hp (e ▸ hx))⟩
theorem aE.putObj{K:Nat->Prop}{a b:World}(h:aE K a b){r:Nat}(hp:¬K r)(o:Obj):aE K a (b.putObj r o):=
 h.trans ⟨rfl,rfl,rfl,by simp,fun x hx _=>World.putObj_heap_other (fun e=>hp (e ▸ hx))⟩
theorem dZ{B:Nat}{W:World}{r:Nat}(h:B<=r)(o:Obj):Below B W (W.putObj r o):=
 ⟨rfl,rfl,rfl,by simp,fun x hx=>World.putObj_heap_other (by omega)⟩
theorem aE.below{K:Nat->Prop}{B:Nat}{a b:World}(h:aE K a b)(hB:∀x,x<B->K x)(hs:B<=a.heap.size):Below B a b:=
 ⟨h.os,h.tape,h.output,h.size,fun x hx=>h.same x (hB x hx) (by omega)⟩
theorem cG(l:Nat)(f:FuncId):(Fence.wide.inRound l).fn f:=trivial
def jG(P:Program)(g:Nat)(lb:Array Value)(N:Nat)(enc:Nat->Array Value)(K:Nat->Prop)(w:World):Prop:=
 ∀(l:Nat) (J Jx:Nat->World->Prop) (W:World),Below w.heap.size w W->(∀b,W.heap.size<=b->K b)->
  (∀q W1 W2,J q W1->Below W.heap.size W1 W2->J q W2)->(∀q W1 W2,Jx q W1->Below W.heap.size W1 W2->Jx q W2)->
  (∀q W1,q<N->J q W1->W.heap.size<=W1.heap.size->YieldAt Fence.wide 0 P l (enc q) W1 fun e W2=>
   aE K W1 W2/\((e=.returned (.bool true)/\J (q+1) W2)\/(e=.returned (.bool false)/\Jx q W2)))->
  J 0 W->
  Calls P g (#[.func (.yield l) #[] #[]]++lb) W fun e W'=>(∃v,e=.returned v)/\(J N W'\/∃q,q<N/\Jx q W')
theorem jG.enc{P:Program}{g:Nat}{lb:Array Value}{N:Nat}{enc enc':Nat->Array Value}{K:Nat->Prop}{w:World}(h:jG P g lb N enc K w)(he:∀q,q<N->enc q=enc' q):jG P g lb N enc' K w:=
 fun l J Jx W h1 h2 h3 h4 h5 h6=>h l J Jx W h1 h2 h3 h4 (fun q W1 hq hj hz=>by rw[he q hq];exact h5 q W1 hq hj hz) h6
def yG(K:Nat->Prop)(I Ix:Nat->World->Prop)(q:Nat)(W:World):Exit->Act->World->Prop
 | .normal,_,W'=>aE K W W'/\I (q+1) W'
 | .ret,_,W'=>aE K W W'/\Ix q W'
 | _,_,_=>False
theorem iR{P:Program}{g:Operand}{ps:Array Tmp}{assign body:Code}{Q:Exit->Act->World->Prop}{a:Act}{w:World}{gf:Nat}{lb:Array Value}{N:Nat}{enc:Nat->Array Value}{K:Nat->Prop}
  (hg:a.eval g=.func (.func gf) #[] lb) (eg:∀args w,(callFunc gf args).run P w=.ok (.enter gf args) w) (hps:∀q,(enc q).size=ps.size)
  (hseq:jG P gf lb N enc (fun b=>K b/\b≠w.heap.size+1) w) (hK:∀b,w.heap.size<=b->K b)
  (I Ix:Nat->World->Prop) (hI:∀q W1 W2,I q W1->Below w.heap.size W1 W2->I q W2) (hIx:∀q W1 W2,Ix q W1->Below w.heap.size W1 W2->Ix q W2) (h0:I 0 w) (a₁:Nat->Act)
  (hassign:∀(l q:Nat) (W:World) (K:Act->World->Prop),K (a₁ q) W->assign.wpIn (Fence.wide.inRound l) 0 P (Exit.then K fun _ _ _=>False) { tmps:=(ps.zip (enc q)).foldl (fun t (p,v)=>t.setIfInBounds p v) a.tmps,defers:=[] } W)
  (hbody:∀(l q:Nat) (W:World),q<N->I q W->w.heap.size+2<=W.heap.size->body.wpIn (Fence.wide.inRound l) 0 P (yG K I Ix q W) (a₁ q) W)
  (hdone:∀(D:Nat) (W:World),w.heap.size<=D->I N W->W.heap[D]?=some (.deferred (some []))->Q .normal { a with defers:={ target:=.collected D,args:=#[] }::a.defers } W)
  (hstop:∀(D q:Nat) (W:World),w.heap.size<=D->q<N->Ix q W->W.heap[D]?=some (.deferred (some []))->Q .ret { a with defers:={ target:=.collected D,args:=#[] }::a.defers } W):
  (Code.rangeFunc g ps assign body).wp P Q a w:=by
 refine(wpIn_wide (n:=0)).1 (wpIn_rangeFunc fun fn _=>?_);let rc:LoopState->Option Code->Loop:=fun st pe=>{ state:=st,pending:=pe,fn,tmps:=a.tmps,params:=ps,assign,body,defers:=w.heap.size }
 let W1:=(w.alloc (.deferred (some []))).alloc (.loop (rc .ready none))
 have z1:W1.heap.size=w.heap.size+2:=by simp[W1]
 have hL1:W1.heap[w.heap.size+1]?=some (.loop (rc .ready none)):=by
  have:=World.alloc_heap_new (w.alloc (.deferred (some []))) (.loop (rc .ready none));rwa [World.size_alloc]at this
 have hD1:W1.heap[w.heap.size]?=some (.deferred (some [])):=(Below.heap_alloc _ _ _ (by simp)).trans (World.alloc_heap_new w _);have b1:Below w.heap.size w W1:=((Below.refl _ w).alloc (Nat.le_refl _) _).alloc (by simp) _
 refine⟨w.heap.size+1,[{ target:=.collected w.heap.size,args:=#[] }],W1,{ target:=.fn (.func gf) lb,args:=#[.func (.yield (w.heap.size+1)) #[] #[]] },W1,gf,#[.func (.yield (w.heap.size+1)) #[] #[]]++lb,W1,run_enterLoop_outer _ _ _ _ _,?_,fun _ _=>trivial,?_,fun h=>by simp[Fence.wide]at h,?_⟩
 .simp only[resolve,hg];simp[go_sem]
 .simp[invoke,go_sem,eg]
 refine callsIn_wide.2 ((hseq (w.heap.size+1) (fun q W=>I q W/\W.heap[w.heap.size+1]?=some (.loop (rc .ready none))/\W.heap[w.heap.size]?=some (.deferred (some []))) (fun q W=>Ix q W/\W.heap[w.heap.size+1]?=some (.loop (rc .done (some .ret)))/\W.heap[w.heap.size]?=some (.deferred (some []))) W1 b1 ?_ ?_ ?_ ?_ ⟨hI _ _ _ h0 b1,hL1,hD1⟩).mono ?_)
 .exact fun b hb=>⟨hK b (by omega),by omega⟩
 .exact fun q A B h hb=>⟨hI q A B h.1 (hb.mono (by omega)),(hb.block _ (by omega)).trans h.2.1,(hb.block _ (by omega)).trans h.2.2⟩
 .exact fun q A B h hb=>⟨hIx q A B h.1 (hb.mono (by omega)),(hb.block _ (by omega)).trans h.2.1,(hb.block _ (by omega)).trans h.2.2⟩
 .rintro q W hq ⟨hi,hl,hd⟩ hz;have hlt:w.heap.size+1<W.heap.size:=by omega
  refine⟨fn,_,assign,body,run_yield (P:=P) (args:=enc q) hl (hps q),roundIn_of_wpIn trivial (hassign _ q W _ ⟨_,run_beginRound hl rfl,?_⟩)⟩
  let Wb:=W.putObj (w.heap.size+1) (.loop { rc .ready none with state:=.busy })
  have zb:Wb.heap.size=W.heap.size:=by simp[Wb]
  have bb:Below w.heap.size W Wb:=dZ (by omega) _;have hlb:Wb.heap[w.heap.size+1]?=some (.loop { rc .ready none with state:=.busy }):=World.putObj_heap_same hlt
  have hdb:Wb.heap[w.heap.size]?=some (.deferred (some [])):=(World.putObj_heap_other (by omega)).trans hd;have kb:aE (fun b=>K b/\b≠w.heap.size+1) W Wb:=(aE.refl _ W).putObj (fun h=>h.2 rfl) _
  refine wpIn_mono (hbody _ q Wb hq (hI q _ _ hi bb) (by omega)) ?_
  have fin:∀(j:Option Code) (W3:World),aE K Wb W3->(Instr.endRound (w.heap.size+1) j).run P W3=.ok (.bool j.isNone) (W3.putObj (w.heap.size+1) (.loop (rc (if j.isNone then .ready else .done) j)))/\aE (fun b=>K b/\b≠w.heap.size+1) W (W3.putObj (w.heap.size+1) (.loop (rc (if j.isNone then .ready else .done) j)))/\Below w.heap.size W3 (W3.putObj (w.heap.size+1) (.loop (rc (if j.isNone then .ready else .done) j)))/\(W3.putObj (w.heap.size+1) (.loop (rc (if j.isNone then .ready else .done) j))).heap[w.heap.size+1]?=some (.loop (rc (if j.isNone then .ready else .done) j))/\(W3.putObj (w.heap.size+1) (.loop (rc (if j.isNone then .ready else .done) j))).heap[w.heap.size]?=some (.deferred (some [])):=fun j W3 hk=>by
   have h3:=(hk.same _ (hK _ (by omega)) (by omega)).trans hlb;have hd3:=(hk.same _ (hK _ (by omega)) (by omega)).trans hdb
   refine⟨run_endRound (P:=P) j h3,?_,dZ (by omega) _,World.putObj_heap_same ?_,(World.putObj_heap_other (by omega)).trans hd3⟩
   .exact(kb.trans (hk.less fun _ h=>h.1)).putObj (fun h=>h.2 rfl) _
   .have:=hk.size;omega
  intro e a3 W3 hp;match e,hp with
  | .normal,hp=>
   obtain⟨f1,f2,f3,f4,f5⟩:=fin none W3 hp.1;exact⟨_,_,f1,f2,.inl ⟨rfl,hI _ _ _ hp.2 f3,f4,f5⟩⟩
  | .ret,hp=>
   obtain⟨f1,f2,f3,f4,f5⟩:=fin (some .ret) W3 hp.1;exact⟨_,_,f1,f2,.inr ⟨rfl,hIx _ _ _ hp.2 f3,f4,f5⟩⟩
 .rintro e W2 ⟨⟨v,rfl⟩,⟨hi,hl,hd⟩ | ⟨q,hq,hi,hl,hd⟩⟩
  .exact⟨none,_,run_endLoop (P:=P) hl (by simp[rc]),hdone _ _ (Nat.le_refl _) (hI _ _ _ hi (dZ (by omega) _)) ((World.putObj_heap_other (by omega)).trans hd)⟩
  .exact⟨some .ret,_,run_endLoop (P:=P) hl (by simp[rc]),wpIn_ret (hstop _ q _ (Nat.le_refl _) hq (hIx _ _ _ hi (dZ (by omega) _)) ((World.putObj_heap_other (by omega)).trans hd))⟩
theorem Db{P:Program}{fn:Func}{R:Ending->World->Prop}{tmps:Array Value}{D:Nat}{W:World}{v:Value}(hD:W.heap[D]?=some (.deferred (some [])))
  (hr:(results fn tmps).run P (W.putObj D (.deferred none))=.ok v (W.putObj D (.deferred none))) (h:R (.returned v) (W.putObj D (.deferred none))):
  bodyPostM Fence.wide 0 P fn R .normal { tmps:=tmps,defers:=[{ target:=.collected D,args:=#[] }] } W:=
 ⟨by simp,.inl ⟨_,_,rfl,run_takeDeferred hD,v,hr,h⟩⟩
theorem gk{P:Program}{fn:Func}{R:Ending->World->Prop}{tmps:Array Value}{D:Nat}{W:World}{v:Value}(hD:W.heap[D]?=some (.deferred (some [])))
  (hr:(results fn tmps).run P (W.putObj D (.deferred none))=.ok v (W.putObj D (.deferred none))) (h:R (.returned v) (W.putObj D (.deferred none))):
  bodyPostM Fence.wide 0 P fn R .ret { tmps:=tmps,defers:=[{ target:=.collected D,args:=#[] }] } W:=
 ⟨by simp,.inl ⟨_,_,rfl,run_takeDeferred hD,v,hr,h⟩⟩
end Go.Proofs.YtleegaihbgbcjabGreatDoor
namespace Go.Proofs.YtleegaihbgbcjabGreatDoor
open Go.RowKit Go.Shelf Num Bit
attribute [local go_sem] Oper.semAt_some
theorem aE.wd{K:Nat->Prop}{W W':World}{ao:Option Addr}{xs:List Nat}(h:aE K W W')(hx:Wd W ao xs)(hK:∀p,ao=some p->0<xs.length->K p.block):Wd W' ao xs:=by
 intro h0;obtain⟨g,off,rfl,hl,hc⟩:=hx h0;have hk:=h.same g (hK _ rfl h0) hl;exact⟨g,off,rfl,Nat.lt_of_lt_of_le hl h.size,fun i hi=>(World.cell?_of_block (w:=W) hk).trans (hc i hi)⟩
theorem aE.cel{K:Nat->Prop}{W W':World}{b:Nat}{cs:List Value}{T:TypeId}(h:aE K W W')(hc:aa W b cs T)(hK:K b):aa W' b cs T:=(h.same b hK hc.lt).trans hc
theorem DJ(t:Nat)(h:t<64):bI ((2^t:Nat):Int)=(t:Int)+1:=by
 unfold bI;rw[Int.toNat_natCast,pT (2^t) t (Nat.pow_lt_pow_right (by decide) (by omega)) (by rw[Nat.div_self (Nat.two_pow_pos t)])];omega
theorem pp(Bb N:Nat)(ao:Option Addr)(xs:List Nat)(cap:Nat)(K:Nat->Prop)(w:World)(hx:Wd w ao xs)(hf:aA xs)(hc:aa w Bb [.int .i64 N,.slice ao xs.length cap] 53)(hK:K Bb)(hKx:∀p,ao=some p->0<xs.length->K p.block)(hk:am (N:Int) xs=true):
  jG prog 182 #[.pointer (some ⟨Bb,0,none⟩)] (plc (bitAt xs) N).length (fun q=>#[.int .i64 q,.int .i64 (gt (plc (bitAt xs) N) q:Nat)]) K w:=by
 intro l J Jx W hW hKW hJ hJx hY h0;refine(callsIn_wide (n:=0)).1 (callsIn_of_wp func182 rfl trivial ?_)
 simp only[ntmps182,List.size_toArray,List.length_cons,List.length_nil,Nat.reduceAdd,Nat.reduceSub,Array.replicate_succ,Array.replicate_zero,List.push_toArray,List.append_toArray,List.nil_append,List.cons_append]
 replace hc:=hc.kept hW;replace hx:=hx.keep hW;have q1:=hc.cell 1 rfl;obtain⟨_,hN,hlen,hhi⟩:=bj (N:Int) xs hk
 have HL:Hid (plc (bitAt xs) (64*xs.length)=plc (bitAt xs) N):=by
  show plc _ _=_;have hle:N<=64*xs.length:=by omega
  rw[show 64*xs.length=N+(64*xs.length-N)by omega];exact pf _ _ _ fun k h1 h2=>j4 N xs hk k (by omega)
 have lx:xs.length<=16384:=by omega
 clear hlen hc;gi_wp2
 gi_loopw [3,4,5,6,10] (fun iv jv rv lv kv wr=>∃j c:Nat,j<=xs.length/\kv=.int .i64 j/\iv=.int .i64 c/\c<=1048576/\Hid (c=(plc (bitAt xs) (64*j)).length)/\Hid (J c wr)/\Hid (Wd wr ao xs)/\W.heap.size<=wr.heap.size) (fun _ _ _ _ k _=>xs.length-(intOf k).toNat)
 case atStart=>exact⟨0,0,Nat.zero_le _,rfl,rfl,by omega,by show 0=_;simp[plc],h0,hx,Nat.le_refl _⟩
 case round=>
  obtain⟨j,c,hj,rfl,rfl,hc0,hc,HJ,HX,hz⟩:=hrel;by_cases hlt:j<xs.length
  .have hlt2:(j:Int)<(xs.length:Int):=by omega
   obtain⟨g,off,rfl,hgl,hcell⟩:=HX.out (by omega);have cj:=hcell j hlt;have xl:=hf j;obtain⟨x,hxx⟩:∃x,Hid (x=gt xs j):=⟨_,rfl⟩;rw[<-hxx.out]at cj xl;gi_wp2
   gi_loopw [3,5,6] (fun iv rv lv wq=>∃p c r:Nat,p<=64/\iv=.int .i64 c/\rv=.int .u64 r/\r<18446744073709551616/\Hid (r=ef x p)/\c<=1048576/\Hid (c=(plc (bitAt xs) (64*j+p)).length)/\Hid (J c wq)/\Hid (Wd wq (some ⟨g,off,none⟩) xs)/\W.heap.size<=wq.heap.size) (fun _ rv _ _=>(intOf rv).toNat)
   case atStart=>exact⟨0,c,x,by omega,rfl,by rw[hxx.out],xl,by show x=_;rw[yT],hc0,hc,HJ,HX,hz⟩
   case round=>
    clear hcell cj;obtain⟨p,c,r,hp,rfl,rfl,hr,Hr,hc0,hc,HJ,HX,hz⟩:=hrel;by_cases hr0:r=0
    .subst hr0
     have HS:Hid (c=(plc (bitAt xs) (64*(j+1))).length):=by
      show c=_
      have e:=pf (bitAt xs) (64*j+p) (64-p) fun k h1 h2=>by
       rw[show k=64*j+(k-64*j)by omega,qR xs j _ (by omega),<-hxx.out];exact yS x p Hr.out.symm _ (by omega)
      rw[hc.out,show 64*(j+1)=64*j+p+(64-p)by omega,e]
     gi_wp2;exact⟨⟨j+1,c,by omega,by go_num,rfl,hc0,HS,HJ,HX,hz⟩,by simp only[intOf];omega⟩
    .have r0:((r:Int) != 0)=true:=by simp;omega
     obtain⟨t,h1,h2,h3,h4,h5,h6⟩:=yR x p xl (fun e=>hr0 (Hr.out.trans e));rw[<-Hr.out]at h5 h6
     have hneg:IntKind.u64.wrap (-(r:Int))=((18446744073709551616-r:Nat):Int):=by rw[IntKind.wrap_u64];omega
     have L:Hid (∀w0,Qx 183 #[.int .u64 (bits BinOp.and IntKind.u64 (r:Int) (IntKind.u64.wrap (-(r:Int))))] w0 (.int .i64 ((t:Int)+1))):=fun w0=>by
      rw[hneg,jg _ _ (by omega) (by omega) (by omega) (by omega),Int.toNat_natCast,Int.toNat_natCast,h5];have:=pU ((2^t:Nat):Int) (by omega) (by have:=eV t h2;omega) w0
      rw[DJ t h2]at this;exact this
     have hpl:plc (bitAt xs) (64*j+t)=plc (bitAt xs) (64*j+p):=by
      rw[show 64*j+t=64*j+p+(t-p)by omega];refine pf _ _ _ fun k e1 e2=>?_;rw[show k=64*j+(k-64*j)by omega,qR xs j _ (by omega),<-hxx.out];exact h4 _ (by omega) (by omega)
     have hbt:bitAt xs (64*j+t)=true:=by rw[qR xs j t h2,<-hxx.out];exact h3
     have htN:64*j+t<N:=by
      refine Nat.lt_of_not_le fun e=>?_;rw[j4 N xs hk _ (by omega)]at hbt;cases hbt
     obtain⟨n1,n2,n3⟩:=AD (bitAt xs) (64*j+t) N htN hbt;rw[hpl,<-hc.out]at n1 n2 n3;have Y:=hY c wr n1 HJ.out hz;have n1':=n1
     rw[n2,show((64*j+t:Nat):Int)=(j:Int)*64+(t:Int)by omega]at Y;obtain⟨r',hr'⟩:∃r',Hid (r'=ef x (t+1)):=⟨_,rfl⟩
     have hand:bits BinOp.and IntKind.u64 (r:Int) ((r:Int)-1)=(r':Int):=by
      rw[show(r:Int)-1=((r-1:Nat):Int)by omega,jg _ _ (by omega) (by omega) (by omega) (by omega),Int.toNat_natCast,Int.toNat_natCast,h6,hr'.out]
     have hrl:r'<r:=by
      rw[hr'.out,<-h6];have:r&&&(r-1)<=r-1:=Nat.and_le_right;omega
     have HC:Hid (c+1=(plc (bitAt xs) (64*j+(t+1))).length):=n3.symm
     have c1:c+1<=1048576:=by
      have:=sU (bitAt xs) N;omega
     obtain⟨fn,tmps,assign,body,hy,hR⟩:=Y;clear h5 h6 hneg n1 n2 n3 hbt hpl h4 h3;gi_wp2_with fail;refine⟨trivial,rfl,?_⟩;refine(callsIn_wide.2 (L.out _)).mono ?_;rintro e w1 ⟨rfl,hw1⟩;rw[hw1];clear hw1 w1 L
     gi_wp2;refine⟨rfl,hR.mono ?_⟩;rintro e W3 ⟨hkp,⟨rfl,hJ3⟩ | ⟨rfl,hJx3⟩⟩
     .have HJ3:Hid (J (c+1) W3):=hJ3;have HX3:Hid (Wd W3 (some ⟨g,off,none⟩) xs):=hkp.wd HX.out hKx;have hz3:=Nat.le_trans hz hkp.size;clear hJ3 hkp HJ HX hY hJ hJx;gi_wp2
      exact⟨⟨t+1,c+1,r',by omega,by go_num,rfl,by omega,hr',c1,HC,HJ3,HX3,hz3⟩,by simp only[intOf];omega⟩
     .have HF:Hid (∃q,q<(plc (bitAt xs) N).length/\Jx q W3):=⟨c,n1',hJx3⟩;clear hJx3 hkp HJ HX hY hJ hJx;gi_wp2;refine bodyPost_ret (results_none rfl _ _ _) rfl ?_;exact⟨⟨_,rfl⟩,.inr HF.out⟩
  .obtain rfl:j=xs.length:=by omega
   have HE:Hid (J (plc (bitAt xs) N).length wr):=by
    show J _ _;rw[<-HL.out,<-hc.out];exact HJ.out
   clear HJ HX hY hJ hJx;gi_wp2;refine bodyPost_end (results_none rfl _ _ _) rfl ?_;exact⟨⟨_,rfl⟩,.inl HE.out⟩
theorem pn(N:Nat)(ao:Option Addr)(xs:List Nat)(cap:Nat)(w:World):
  Calls prog 147 #[.agg #[.int .i64 N,.slice ao xs.length cap]] w fun e w'=>e=.returned (.func (.func 182) #[] #[.pointer (some ⟨w.heap.size,0,none⟩)])/\w'=w.alloc (.cells #[.int .i64 N,.slice ao xs.length cap] 53):=by
 go_enter func147,ntmps147;go_wp2;go_ret;exact⟨rfl,rfl⟩
end Go.Proofs.YtleegaihbgbcjabGreatDoor
namespace Go.Proofs.YtleegaihbgbcjabGreatDoor
open Go.RowKit Num Bit
theorem ux:(prog.info? 3).map (fun i=>(i.zero,i.size,i.bytes))=some (some (.int .i64 0),1,8):=by kernel_rfl
def lz(l:List Nat):List Int:=l.map fun n:Nat=>(n:Int)
def lv(l:List Nat):List Value:=l.map fun n:Nat=>Value.int .i64 (n:Int)
theorem fN(l:List Nat):(lz l).length=l.length:=by simp[lz]
theorem DC(l:List Nat):(lv l).length=l.length:=by simp[lv]
theorem j0(l:List Nat)(i:Nat):gi (lz l) i=(gt l i:Int):=by
 unfold gi lz gt;rw[List.getD_eq_getElem?_getD,List.getD_eq_getElem?_getD,List.getElem?_map];cases l[i]?<;>rfl
theorem me(l:List Nat)(v:Nat):lv l++[.int .i64 v]=lv (l++[v]):=by simp[lv]
theorem kH{w:World}{base n c:Nat}{ao:Option Addr}{l:List Nat}(h:w.ownsRow base 3 1 (.slice ao n c) n (lv l)):Nd w ao (lz l):=by
 intro h0;rw[fN]at h0;have hlen:(lv l).length=n*1:=h.1;rw[DC]at hlen;have hk:=fun k hk=>h.lt k hk;have hc:=fun g hg=>h.cells (g:=g) hg;obtain⟨_,⟨e,e2⟩ | ⟨g,cap,cur,e,_⟩⟩:=h
 .omega
 .simp only[Value.slice.injEq]at e;obtain⟨rfl,_,rfl⟩:=e;refine⟨g,0,rfl,(hk g rfl).2,fun i hi=>?_⟩;rw[fN]at hi
  have hu:(lv l)[i]?=some (.int .i64 (gi (lz l) i)):=by
   rw[j0];unfold lv gt;rw[List.getElem?_map,List.getD_eq_getElem?_getD,List.getElem?_eq_getElem hi];rfl
  rw[<-hc g rfl i _ hu];unfold Addr.add;split
  .subst_vars;rfl
  .simp
theorem Hid.mk9{p:Prop}(h:p):Hid p:=h
theorem sZ(m:Nat)(ao:Option Addr)(xs:List Nat)(cap:Nat)(w:World)(hx:Wd w ao xs)(hk:am (m:Int) xs=true):
  Calls prog 112 #[.agg #[.int .i64 m,.slice ao xs.length cap]] w fun e w'=>∃v,e=.returned v/\w'.ownsRow (w.heap.size+1) 3 1 v (plc (bitAt xs) m).length (lv (plc (bitAt xs) m))/\Below w.heap.size w w':=by
 obtain⟨h0,h1,h2, -⟩:=bj (m:Int) xs hk;have HL:Hid (∀j,j<m->j/64<xs.length):=fun j hj=>by omega
 obtain⟨i3,hi3,za3,zb3,zc3⟩:=info_parts ux;have hm:m<=1048576:=by omega
 clear h2;obtain⟨W,hW⟩:∃W,W=w.alloc (.cells #[.int .i64 m,.slice ao xs.length cap] 53):=⟨_,rfl⟩;have bW:=ba hW;have B1:=bE hW;go_enter func112,ntmps112;go_wp2;rw[<-hW];clear hW
 go_loopw [3,4] (fun v i wr=>∃q:Nat,q<=m/\i=.int .i64 q/\wr.ownsRow (w.heap.size+1) 3 1 v (plc (bitAt xs) q).length (lv (plc (bitAt xs) q))/\aa wr w.heap.size [.int .i64 m,.slice ao xs.length cap] 53/\Below w.heap.size w wr) (fun _ i _=>m-(intOf i).toNat)
 case atStart=>exact⟨0,Nat.zero_le _,rfl,World.ownsRow_nil _ _ _ _,B1,bW⟩
 case round=>
  obtain⟨q,hq,rfl,hown,hC,hwr⟩:=hrel;clear B1 bW;have r0:=hC.cell 0 rfl;have r1:=hC.cell 1 rfl;obtain⟨vo,vc,rfl,hvc, -⟩:=Ap.owns_shape hown;have ple:=sU (bitAt xs) q;by_cases hlt:q<m
  .have hlt2:(q:Int)<(m:Int):=by omega
   have C2:Hid (Qz w 65 #[.agg #[.int .i64 m,.slice ao xs.length cap],.int .i64 q] (.bool (bitAt xs q))):=fun w0 h=>mK m ao xs cap q w0 (hx.keep h) (HL.out _ hlt) (by omega)
   go_wp2_with fail;refine mr (C2.out _ hwr) fun w2 hb2=>?_;have hw2:=bg hwr hb2;have hC2:=hC.kept hb2;have own2:=Ap.owns_below hown hb2;clear hb2 r0 r1 C2 hC hown hwr
   cases hbit:bitAt xs q with
   | true=>
    have HP:Hid (plc (bitAt xs) (q+1)=plc (bitAt xs) q++[q]):=by show _=_;rw[jL,hbit];rfl
    have bA:=below_alloc w2 (.cells #[.int .i64 q] 3);have own3:=Ap.owns_below own2 bA
    have src3:(w2.alloc (.cells #[.int .i64 q] 3)).cell? ⟨w2.heap.size,0,none⟩=some (.int .i64 q):=(aa.new w2 [.int .i64 q] 3).cell 0 rfl;have hw3:=bg hw2 bA
    have hC3:=hC2.kept bA;have g3:w.heap.size+1<=(w2.alloc (.cells #[.int .i64 q] 3)).heap.size:=hC3.lt;generalize plc (bitAt xs) q=l at *
    go_wp2_with (at_builtin;refine Ap.wpList_append_u rfl _ _ 25 rfl (w.heap.size+1) 3 i3 (.int .i64 0) 8 underlying25 hi3 za3 zb3 zc3 rfl (.slice vo l.length vc) l.length (lv l) rfl own3 (some ⟨w2.heap.size,0,none⟩) 1 1 [.int .i64 q] rfl rfl ?d1 ?d2 ?d3 ?d4 ?d5 ?_)
    case d1=>exact fun _=>⟨_,rfl,fun j u hj=>by
     match j,hj with
     | 0,hj=>simp at hj;subst hj;exact src3⟩
    case d2=>intro u hu;simp at hu;subst hu;rfl
    case d3=>unfold maxLen;omega
    case d4=>omega
    case d5=>exact g3
    intro so sc w4 own4 hle4 hB4;rw[me]at own4
    have HO:Hid (w4.ownsRow (w.heap.size+1) 3 1 (.slice so (l.length+1) sc) (plc (bitAt xs) (q+1)).length (lv (plc (bitAt xs) (q+1)))):=by
     show w4.ownsRow _ _ _ _ _ _;rw[HP.out,List.length_append];exact own4
    have hC4:=hC3.keep hB4 (Nat.lt_succ_self _);have hw4:=hw3.trans (hB4.mono (Nat.le_succ _));clear own4 own3 own2 hB4 hC3 hC2 hw3 hw2 bA src3 g3 HP;go_wp2
    exact⟨⟨q+1,by omega,by go_num,HO.out,hC4,hw4⟩,by simp only[intOf];omega⟩
   | false=>
    have HP:plc (bitAt xs) (q+1)=plc (bitAt xs) q:=by rw[jL,hbit];simp
    have HO:Hid (w2.ownsRow (w.heap.size+1) 3 1 (.slice vo (plc (bitAt xs) q).length vc) (plc (bitAt xs) (q+1)).length (lv (plc (bitAt xs) (q+1)))):=by
     show w2.ownsRow _ _ _ _ _ _;rw[HP];exact own2
    clear own2 HP;go_wp2;exact⟨⟨q+1,by omega,by go_num,HO.out,hC2,hw2⟩,by simp only[intOf];omega⟩
  .obtain rfl:q=m:=by omega
   have HO:=Hid.mk9 (And.intro hown hwr);clear hown hC;go_wp2;go_ret;exact⟨_,rfl,HO.out.1,HO.out.2⟩
theorem ue(x:Nat)(h0:0<x)(h:x<18446744073709551616):1<=Go.bitLen x:=by
 obtain⟨p,hp,h1,_,_,_⟩:=pN (x:Int) (by omega) (by omega) (by omega);unfold bI at hp;rw[Int.toNat_natCast]at hp;omega
theorem u_(n m:Nat)(hn:n<=1048576)(hm:m<=n)(w:World):
  Qq 164 #[.int .i64 n,.int .i64 m] w (.int .i64 (wdF n m)):=by
 by_cases h0:m=0
 .subst h0;rw[show wdF n 0=0 from rfl];go_enter func164,ntmps164;go_wp2;go_ret;exact⟨rfl,Below.refl _ _⟩
 .have m0:((m:Int)==0)=false:=by simp;omega
  have m1:¬(m:Int)=0:=by omega
  obtain⟨d,hd⟩:∃d,d=n/m:=⟨_,rfl⟩;have d1:1<=d:=by rw[hd];exact Nat.div_pos hm (by omega)
  have d2:d<=1048576:=by rw[hd];exact Nat.le_trans (Nat.div_le_self n m) hn
  have e1:(n:Int)/(m:Int)=(d:Int):=by rw[hd];exact(Int.natCast_ediv n m).symm
  have e2:(n:Int).tdiv (m:Int)=(d:Int):=by rw[Int.tdiv_eq_ediv_of_nonneg (by omega)];exact e1
  obtain⟨z,hz⟩:∃z,Go.bitLen d=z+1:=⟨Go.bitLen d-1,by have:=ue d (by omega) (by omega);omega⟩;have hw:wdF n m=z:=by unfold wdF;rw[if_neg h0,<-hd,hz];rfl
  have lz_:=io d 21 (by omega);rw[hw]
  have L:Hid (∀w0,Qx 162 #[.int .u64 d] w0 (.int .i64 ((z:Int)+1))):=fun w0=>by
   have:=oX (d:Int) (by omega) (by omega) w0;unfold bI at this;rw[Int.toNat_natCast,hz]at this;exact this
  rw[hz]at lz_;clear hz hw hd;go_enter func164,ntmps164;go_wp2_with fail;refine mr (L.out _) fun w1 h1=>?_;rw[h1];clear h1 w1;go_wp2;go_ret;exact⟨rfl,Below.refl _ _⟩
def dC(n:Nat)(f:Nat->Bool):List Value:=(List.range n).map fun j=>.bool (f j)
def fD(n:Nat)(f:Nat->Bool):List Bool:=(List.range n).map f
theorem pR(n:Nat)(f:Nat->Bool):(dC n f).length=n:=by simp[dC]
theorem mE(n:Nat)(f:Nat->Bool)(i:Nat)(h:i<n):(dC n f)[i]?=some (.bool (f i)):=by
 unfold dC;rw[List.getElem?_map,List.getElem?_range h];rfl
theorem vD(n:Nat)(f:Nat->Bool)(j:Nat):(dC n f).set j (.bool true)=dC n (fun t=>f t||j==t):=by
 refine List.ext_getElem? fun i=>?_;rw[List.getElem?_set,pR];by_cases c:i<n
 .rw[mE n _ i c,mE n _ i c];by_cases d:j=i
  .subst d;simp[c]
  .rw[if_neg d];simp[d]
 .have e:∀g,(dC n g)[i]?=none:=fun g=>List.getElem?_eq_none (by rw[pR];omega);rw[e,e];by_cases d:j=i
  .subst d;simp[c]
  .rw[if_neg d]
theorem qD(n:Nat)(f g:Nat->Bool)(h:∀i,i<n->f i=g i):dC n f=dC n g:=by
 unfold dC;exact List.map_congr_left fun i hi=>by rw[h i (List.mem_range.1 hi)]
theorem vY{w:World}{base g n:Nat}(h:w.ownsRow base 4 1 (.slice (some ⟨g,0,none⟩) n n) n (madeCells #[.bool false] n).toList):aa w g (dC n fun _=>false) 4:=by
 obtain⟨_,h | ⟨g',cap,cur,e,_,hh,_,_,hs,ht⟩⟩:=h
 .simp at h
 .simp only[Value.slice.injEq,Option.some.injEq,Addr.mk.injEq]at e;obtain⟨⟨rfl,_,_⟩,_,rfl⟩:=e;unfold aa;rw[hh]
  have e2:(madeCells #[.bool false] n).toList=dC n fun _=>false:=by
   rw[toList_madeCells_one (.bool false) n];symm;rw[List.eq_replicate_iff];refine⟨pR _ _,fun b hb=>?_⟩;unfold dC at hb;rw[List.mem_map]at hb;obtain⟨_,_,rfl⟩:=hb;rfl
  rw[e2]at ht;have e3:cur.toList.take (n*1)=cur.toList:=List.take_of_length_le (by simp;omega);rw[e3]at ht;rw[<-ht]
theorem vP{w:World}{g n:Nat}{f:Nat->Bool}(h:aa w g (dC n f) 4):Bl w (some ⟨g,0,none⟩) (fD n f):=by
 intro h0;have hl:(fD n f).length=n:=by simp[fD]
 refine⟨g,0,rfl,h.lt,fun i hi=>?_⟩;rw[hl]at hi
 have e:bt (fD n f) i=f i:=by
  unfold bt fD;rw[List.getD_eq_getElem?_getD,List.getElem?_map,List.getElem?_range hi];rfl
 rw[e,Nat.zero_add];exact h.cell i (mE n f i hi)
theorem nZ(n m:Nat)(hn:n<=1048576)(hm:m<=n)(w:World):
  Qx 150 #[.int .i64 n,.int .i64 m] w (.int .i64 (wdF n m)):=by
 by_cases h0:m=0
 .subst h0;rw[show wdF n 0=0 from rfl];go_enter func150,ntmps150;go_wp2;go_ret;exact⟨rfl,rfl⟩
 .have m0:((m:Int)==0)=false:=by simp;omega
  have m1:¬(m:Int)=0:=by omega
  obtain⟨d,hd⟩:∃d,d=n/m:=⟨_,rfl⟩;have d1:1<=d:=by rw[hd];exact Nat.div_pos hm (by omega)
  have d2:d<=1048576:=by rw[hd];exact Nat.le_trans (Nat.div_le_self n m) hn
  have e1:(n:Int)/(m:Int)=(d:Int):=by rw[hd];exact(Int.natCast_ediv n m).symm
  have e2:(n:Int).tdiv (m:Int)=(d:Int):=by rw[Int.tdiv_eq_ediv_of_nonneg (by omega)];exact e1
  obtain⟨z,hz⟩:∃z,Go.bitLen d=z+1:=⟨Go.bitLen d-1,by have:=ue d (by omega) (by omega);omega⟩;have hw:wdF n m=z:=by unfold wdF;rw[if_neg h0,<-hd,hz];rfl
  have lz_:=io d 21 (by omega);rw[hw]
  have L:Hid (∀w0,Qx 183 #[.int .u64 d] w0 (.int .i64 ((z:Int)+1))):=fun w0=>by
   have:=pU (d:Int) (by omega) (by omega) w0;unfold bI at this;rw[Int.toNat_natCast,hz]at this;exact this
  rw[hz]at lz_;clear hz hw hd;go_enter func150,ntmps150;go_wp2_with fail;refine mr (L.out _) fun w1 h1=>?_;rw[h1];clear h1 w1;go_wp2;go_ret;exact⟨rfl,rfl⟩
theorem aU{p:Prop}(h:p):Hid p:=h
def loN(n m:Nat):Nat:=if wdF n m=0 then 0 else m
theorem qf(n m:Nat)(hn:n<=1048576)(hm:m<=n)(w:World):
  Qx 146 #[.int .i64 n,.int .i64 m] w (.tuple #[.int .i64 (loN n m),.int .i64 (max (wdF n m) 1:Nat)]):=by
 have C:Hid (∀w0,Qx 150 #[.int .i64 n,.int .i64 m] w0 (.int .i64 (wdF n m))):=fun w0=>nZ n m hn hm w0;unfold loN;have h20:=fW n m (by omega)
 generalize wdF n m=v at *;by_cases h0:v=0
 .subst h0;go_enter func146,ntmps146;go_wp2_with fail;refine mr (C.out _) fun w1 h1=>?_;rw[h1];clear h1 w1;go_wp2;go_ret2;exact⟨rfl,rfl⟩
 .have v0:(0:Int)<(v:Int):=by omega
  rw[if_neg h0,show max v 1=v by omega];go_enter func146,ntmps146;go_wp2_with fail;refine mr (C.out _) fun w1 h1=>?_;rw[h1];clear h1 w1;go_wp2;go_ret2;exact⟨rfl,rfl⟩
theorem uO(n m:Nat)(hn:n<=1048576)(hm:m<=n)(w:World):
  Qx 149 #[.int .i64 n,.int .i64 m] w (.int .i64 ((m+n/2^wdF n m+1:Nat):Int)):=by
 have C:Hid (∀w0,Qx 150 #[.int .i64 n,.int .i64 m] w0 (.int .i64 (wdF n m))):=fun w0=>nZ n m hn hm w0;have h20:=fW n m (by omega);generalize wdF n m=v at *
 obtain⟨E,hE⟩:∃E,Hid (E=n/2^v):=⟨_,rfl⟩;have lE:E<=1048576:=by rw[hE.out];exact Nat.le_trans (Nat.div_le_self _ _) hn
 have sE:(n:Int)/2^v=(E:Int):=by rw[hE.out,Int.natCast_ediv,Int.natCast_pow];rfl
 rw[<-hE.out,show((m+E+1:Nat):Int)=(m:Int)+(E:Int)+1 by omega];have v64:(v:Int)<64:=by omega
 go_enter func149,ntmps149;go_wp2_with fail;refine mr (C.out _) fun w1 h1=>?_;rw[h1];clear h1 w1;go_wp2;go_ret;exact⟨rfl,rfl⟩
theorem uN(bit:Bool)(i o:Nat)(hi:i<=1048576)(ho:o<=i)(w:World):
  Qx 128 #[.bool bit,.int .i64 i,.int .i64 o] w (.int .i64 ((if bit then o else i-o:Nat):Int)):=by
 cases bit with
 | true=>
  go_enter func128,ntmps128;go_wp2;go_ret;exact⟨rfl,rfl⟩
 | false=>
  have e:Hid (((i-o:Nat):Int)=(i:Int)-(o:Int)):=by show((i-o:Nat):Int)=_;omega
  simp only[Bool.false_eq_true,if_false];rw[e.out];go_enter func128,ntmps128;go_wp2;go_ret;exact⟨rfl,rfl⟩
theorem yx(n:Nat)(f:Nat->Bool)(p:Nat)(hp:p<n):(rowOf n f).set (p/64) (gt (rowOf n f) (p/64)|||2^(p%64))=rowOf n (fun j=>f j||p==j):=by
 have hl:p/64<(rowOf n f).length:=by rw[cP];omega
 have hfit:=cY n f
 have hg:∀i,gt ((rowOf n f).set (p/64) (gt (rowOf n f) (p/64)|||2^(p%64))) i=if i=p/64 then gt (rowOf n f) i|||2^(p%64)else gt (rowOf n f) i:=fun i=>by
  unfold gt;rw[List.getD_eq_getElem?_getD,List.getElem?_set];by_cases c:p/64=i
  .subst c;rw[if_pos rfl,if_pos hl,if_pos rfl];rfl
  .rw[if_neg c,if_neg (fun e=>c e.symm),List.getD_eq_getElem?_getD]
 refine jz n _ _ ?_ (by rw[List.length_set,cP]) ?_
 .intro i;rw[hg];split
  .exact Nat.or_lt_two_pow (n:=64) (hfit i) (Nat.pow_lt_pow_right (by decide) (by omega))
  .exact hfit i
 .intro i _;have hb:=eQ n f i;unfold bitAt at hb⊢;rw[hg];by_cases c:i/64=p/64
  .rw[if_pos c,Nat.testBit_or,hb,Nat.testBit_two_pow];by_cases d:p=i
   .subst d;simp[hp]
   .have:¬p%64=i%64:=by omega
    have d2:(p==i)=false:=by simp[d]
    rw[d2];simp[this]
  .have d:¬p=i:=fun e=>c (by rw[e]);have d2:(p==i)=false:=by simp[d]
   rw[if_neg c,hb,d2];simp
theorem Own.drew'{w:World}{g:Nat}{ys:List Nat}(h:Own w g ys):Own w.drew g ys:=h
theorem bh.drew'{g:Nat}{a w:World}(h:bh g a w):bh g a w.drew:=⟨h.os,h.tape,h.output,h.size,h.block⟩
theorem uK(n:Nat)(f:Nat->Bool)(g cap p:Nat)(w:World)(hO:Own w g (rowOf n f))(hp:p<n)(hn:n<=1048576):
  Calls prog 135 #[.slice (some ⟨g,0,none⟩) (rowOf n f).length cap,.int .i64 p] w fun e w'=>(∃v,e=.returned v)/\Own w' g (rowOf n (fun j=>f j||p==j))/\bh g w w':=by
 have hl:p/64<(rowOf n f).length:=by rw[cP];omega
 have hl2:(p:Int)/64<((rowOf n f).length:Int):=by omega
 have hll:(rowOf n f).length<=16384:=by rw[cP];omega
 have RS:=aU (yx n f p hp);have SO:Hid (IntKind.u64.wrap ((2:Int)^(p%64))=((2^(p%64):Nat):Int)):=shl_one _ (by omega);have SP:Hid (2^(p%64)<18446744073709551616):=eV _ (by omega)
 have fx:=cY n f;have xl:=fx (p/64);generalize rowOf n f=xs at *;have c1:=hO.cell (p/64) hl;have c2:=hO.frozen (p/64)
 have OR:Hid (bits BinOp.or IntKind.u64 (gt xs (p/64):Int) (IntKind.u64.wrap ((2:Int)^(p%64)))=((gt xs (p/64)|||2^(p%64):Nat):Int)):=by show _=_;rw[SO.out,u64_or_nat _ _ xl SP.out]
 have HO:=aU hO;generalize gt xs (p/64)=x at *;go_enter func135,ntmps135;go_region;refine bodyPost_end (results_none rfl _ _ _) rfl ?_;rw[OR.out,<-RS.out]
 exact⟨⟨_,rfl⟩,(HO.out.set _ _).drew',((bh.refl g w).set _ _).drew'⟩
end Go.Proofs.YtleegaihbgbcjabGreatDoor
namespace Go.Proofs.YtleegaihbgbcjabGreatDoor
open Go.RowKit
theorem ca{ops:Array Oper}{rest:List Oper}{d:Option Tmp}{ty T:TypeId}{ps:String}{af:Array Edge}{gd:Option (Nat×Bool)}{a:Act}{w:World}{Q:Exit->Act->World->Prop}{x:Operand}
  (g:Nat) (cs:List Value) {fs:Array Field} (hwn:Region.wanted (⟨d,.load T x,ty,ps,af,gd⟩:Oper) (yielded ops a.tmps)=true) (hx:a.eval x=.pointer (some ⟨g,0,none⟩)) (hc:aa w g cs T) (hu:prog.underlying T=some (.struct fs)) (hi:(prog.info? T).map (·.size)=some cs.length)
  (h:wpList prog ops Q rest (a.put d (.agg cs.toArray)) w):
  wpList prog ops Q (⟨d,.load T x,ty,ps,af,gd⟩::rest) a w:=
 wpList_step fun K hK=>by
  rw[if_pos hwn];exact wp_load_row T x rfl g hx T cs.toArray (0,0) _ hc hu rfl (by simpa using hi) (hK _ _ h)
theorem km{T:TypeId}{w:World}{x:Operand}{ρ:Operand->Value}{d:Option Tmp}{ty:TypeId}{ps:String}{af:Array Edge}{gd:Option (Nat×Bool)}
  (g:Nat) (cs:List Value) {fs:Array Field} (hx:ρ x=.pointer (some ⟨g,0,none⟩)) (hc:aa w g cs T) (hu:prog.underlying T=some (.struct fs)) (hi:(prog.info? T).map (·.size)=some cs.length):
  (execOp ρ (⟨d,.load T x,ty,ps,af,gd⟩:Oper)).run prog w=.ok (.value (.agg cs.toArray)) w:=by
 have hl:=run_loadVar_row (P:=prog) w g T T cs.toArray (0,0) _ hc hu rfl (by simpa using hi);unfold execOp;simp only[hx,Instr.loadAt,Instr.sureAddr,Sem.run_bind,Sem.run_pure,Result.andThen_ok,hl]
open Go.RowKit Go.Shelf Num Bit
attribute [local go_sem] Oper.semAt_some
def plq(n mm:Nat)(xs:List Nat)(hh:Nat)(ys:List Nat)(q:Nat):Nat:=(gt (plc (bitAt ys) hh) q-q)*2^wdF n mm+numAt (wdF n mm) xs q
structure gE (n mm kn vn:Nat) (LM:Int) (xs:List Nat) (hh:Nat) (ys:List Nat):Prop where
 hn:n<=1048576
 hm:mm<=n
 ik:aP (kn:Int) (vn:Int) LM xs=true
 ck:am (hh:Int) ys=true
 on:(plc (bitAt ys) hh).length=mm
 hv:vn=max (wdF n mm) 1
 hk:kn=loN n mm
 hh:hh=mm+n/2^wdF n mm+1
theorem oe{n mm kn vn:Nat}{LM:Int}{xs:List Nat}{hh:Nat}{ys:List Nat}(h:gE n mm kn vn LM xs hh ys)(q:Nat)(hq:q<mm):dX (wdF n mm) ((List.range kn).map (numAt vn xs)) (plc (bitAt ys) hh) q=plq n mm xs hh ys q:=by
 unfold dX plq;congr 1;by_cases c:wdF n mm=0
 .rw[if_pos c,c];rfl
 .have e1:vn=wdF n mm:=by rw[h.hv];omega
  have e2:kn=mm:=by rw[h.hk];unfold loN;rw[if_neg c]
  rw[if_neg c,e1,e2]
  have e3:gt ((List.range mm).map (numAt (wdF n mm) xs)) q=numAt (wdF n mm) xs q:=by
   unfold gt;rw[List.getD_eq_getElem?_getD,List.getElem?_map,List.getElem?_range hq];rfl
  rw[e3];exact Nat.mod_eq_of_lt (fb _ _)
theorem xM{n mm kn vn:Nat}{LM:Int}{xs:List Nat}{hh:Nat}{ys:List Nat}(h:gE n mm kn vn LM xs hh ys)(q:Nat)(hq:q<mm):slcE LM xs ((q:Int)*(wdF n mm:Int)) (wdF n mm:Int)=0/\slcX LM xs ((q:Int)*(wdF n mm:Int)) (wdF n mm:Int)=numAt (wdF n mm) xs q:=by
 have h20:=fW n mm (by have:=h.hn;omega)
 have hc:am LM xs=true:=by
  have:=h.ik;unfold aP at this;rw[Bool.and_eq_true]at this;exact this.2
 have hLM:LM=(kn:Int)*(vn:Int):=by
  have:=h.ik;unfold aP at this;rw[Bool.and_eq_true,decide_eq_true_eq]at this;exact this.1.2.2.2.symm
 have hE:slcE LM xs ((q:Int)*(wdF n mm:Int)) (wdF n mm:Int)=0:=by
  unfold slcE;have hq0:(0:Int)<=(q:Int)*(wdF n mm:Int):=Int.mul_nonneg (by omega) (by omega);rw[if_neg (by rw[hc];simp;omega),if_neg]
  have:(q:Int)*(wdF n mm:Int)+(wdF n mm:Int)<=LM:=by
   by_cases c:wdF n mm=0
   .rw[c,hLM];have:(0:Int)<=(kn:Int)*(vn:Int):=Int.mul_nonneg (by omega) (by omega);simpa using this
   .have e1:vn=wdF n mm:=by rw[h.hv];omega
    have e2:kn=mm:=by rw[h.hk];unfold loN;rw[if_neg c]
    rw[hLM,e1,e2];have:=kI mm (wdF n mm) q hq;rw[<-Int.natCast_mul,<-Int.natCast_mul];omega
  omega
 refine⟨hE,?_⟩;unfold slcX;rw[if_pos hE];unfold numAt;rw[Int.toNat_natCast,<-Int.natCast_mul,Int.toNat_natCast]
theorem tC(x:Nat)(h:x<=20971520): -9223372036854775808<=(x:Int)/\(x:Int)<=9223372036854775807:=⟨by omega,by omega⟩
theorem BE(x:Nat)(h:x<=20971520):wrap64 (x:Int)=(x:Int):=by unfold wrap64;omega
theorem xK(ao:Option Addr)(xs:List Nat)(cap:Nat)(fx:aA xs)(q v:Nat)(LM:Int)(hq:q<=1048576)(hv:v<=20)(sE:slcE LM xs ((q:Int)*(v:Int)) (v:Int)=0)(sX:slcX LM xs ((q:Int)*(v:Int)) (v:Int)=numAt v xs q)(w0:World)(h:Wd w0 ao xs):
  Qq 140 #[.agg #[.int .i64 LM,.slice ao xs.length cap],.int .i64 (wrap64 ((q:Int)*(v:Int))),.int .i64 v] w0 (.tuple #[.int .u64 (numAt v xs q:Nat),.int .i64 0]):=by
 have qn:q*v<=20971520:=Nat.le_trans (Nat.mul_le_mul hq hv) (by decide);rw[<-Int.natCast_mul]at sE sX⊢;obtain⟨n1,n2⟩:=tC _ qn;obtain⟨n3,n4⟩:=tC v (by omega);rw[BE _ qn]
 have:=m6 LM ao xs cap ((q*v:Nat):Int) v w0 h fx n1 n2 n3 n4;rw[sE,sX]at this;exact this
theorem aE.more{K:Nat->Prop}{D:Nat}{a b c:World}(h:aE K a b)(hb:Below D b c)(hD:a.heap.size<=D):aE K a c:=
 ⟨hb.os.trans h.os,hb.tape.trans h.tape,hb.output.trans h.output,Nat.le_trans h.size hb.size,fun x hx hl=>(hb.block x (by omega)).trans (h.same x hx hl)⟩
theorem kD(n mm kn vn hh:Nat)(LM:Int)(ao:Option Addr)(xs:List Nat)(cap:Nat)(qo:Option Addr)(ys:List Nat)(dap:Nat)(K:Nat->Prop)(w:World)(Bx Bw:Nat)(F:gE n mm kn vn LM xs hh ys)
  (hx:Wd w ao xs) (fx:aA xs) (hy:Wd w qo ys) (fy:aA ys) (cx:aa w Bx [.int .i64 n,.int .i64 mm,.int .i64 kn,.int .i64 vn,.int .i64 LM,.slice ao xs.length cap,.int .i64 hh,.slice qo ys.length dap] 61) (cw:aa w Bw [.int .i64 (wdF n mm:Nat)] 3) (kx:K Bx) (kw:K Bw) (ka:∀p,ao=some p->0<xs.length->K p.block) (kq:∀p,qo=some p->0<ys.length->K p.block):
  jG prog 176 #[.pointer (some ⟨Bx,0,none⟩),.pointer (some ⟨Bw,0,none⟩)] mm (fun q=>#[.int .i64 q,.int .i64 (plq n mm xs hh ys q:Nat)]) K w:=by
 intro l J Jx W hW hKW hJ hJx hY h0;refine(callsIn_wide (n:=0)).1 (callsIn_of_wp_marks func176 rfl trivial ?_)
 simp only[ntmps176,List.size_toArray,List.length_cons,List.length_nil,Nat.reduceAdd,Nat.reduceSub,Array.replicate_succ,Array.replicate_zero,List.push_toArray,List.append_toArray,List.nil_append,List.cons_append]
 refine wpIn_wide.2 ?_;replace cx:=cx.kept hW;replace cw:=cw.kept hW;replace hx:=hx.keep hW;replace hy:=hy.keep hW
 have OC:Hid (∀w0,Calls prog 147 #[.agg #[.int .i64 hh,.slice qo ys.length dap]] w0 fun e w'=>e=.returned (.func (.func 182) #[] #[.pointer (some ⟨w0.heap.size,0,none⟩)])/\w'=w0.alloc (.cells #[.int .i64 hh,.slice qo ys.length dap] 53)):=fun w0=>pn hh qo ys dap w0
 obtain⟨W1,hW1⟩:∃W1,W1=W.alloc (.cells #[.func (.yield l) #[] #[]] 211):=⟨_,rfl⟩;have b1:Below W.heap.size W W1:=by rw[hW1];exact below_alloc W _
 have z1:W1.heap.size=W.heap.size+1:=by rw[hW1];simp
 have cT:aa W1 W.heap.size [.func (.yield l) #[] #[]] 211:=by rw[hW1];exact aa.new W _ _
 have r6:=(cx.kept (below_alloc W (.cells #[.func (.yield l) #[] #[]] 211))).cell 6 rfl;have r7:=(cx.kept (below_alloc W (.cells #[.func (.yield l) #[] #[]] 211))).cell 7 rfl;go_wp2_with fail;rw[<-hW1];clear hW1
 refine(OC.out _).mono ?_;rintro e w' ⟨rfl,hw'⟩;have b2:Below W1.heap.size W1 w':=by rw[hw'];exact below_alloc W1 _
 have cB:aa w' W1.heap.size [.int .i64 hh,.slice qo ys.length dap] 53:=by rw[hw'];exact aa.new W1 _ _
 have z2:w'.heap.size=W.heap.size+2:=by rw[hw'];simp[z1]
 rw[z1];rw[z1]at cB;clear hw' r6 r7 OC;go_wp2;have b3:Below W.heap.size W w':=bg b1 b2;have cT2:=cT.kept b2;have hi_on:=F.on
 have G:=pp (W.heap.size+1) hh qo ys dap (fun b=>K b/\b≠w'.heap.size+1) w' (hy.keep b3) fy cB ⟨hKW _ (by omega),by omega⟩ (fun p hp h0=>⟨kq p hp h0,by
  obtain⟨g,off,e,hg,_⟩:=hy h0;rw[e]at hp;cases hp;show g≠_
  omega⟩) F.ck
 rw[hi_on]at G
 refine iR (gf:=182) (lb:=#[.pointer (some ⟨W.heap.size+1,0,none⟩)]) (K:=K) rfl (enters_of func182 (by kernel_rfl) rfl) (fun _=>rfl) G (fun b hb=>hKW b (by omega))
  (fun q Wc=>J q Wc/\aE K w' Wc) (fun q Wc=>Jx q Wc) (fun q A B h hb=>⟨hJ q A B h.1 (hb.mono (by omega)),h.2.more hb (Nat.le_refl _)⟩) (fun q A B h hb=>hJx q A B h (hb.mono (by omega))) ⟨hJ 0 W w' h0 b3,aE.refl _ _⟩
  (fun q=>{ tmps:=#[.func (.yield l) #[] #[],.pointer (some ⟨Bx,0,none⟩),.pointer (some ⟨Bw,0,none⟩),.pointer (some ⟨W.heap.size,0,none⟩),.int .i64 (q:Nat),.int .i64 (gt (plc (bitAt ys) hh) q:Nat),undef,undef,.pointer (some ⟨Bx,6,none⟩),.agg #[.int .i64 hh,.slice qo ys.length dap],.func (.func 182) #[] #[.pointer (some ⟨W.heap.size+1,0,none⟩)],.int .i64 (q:Nat),.int .i64 (gt (plc (bitAt ys) hh) q:Nat),undef,undef,undef,undef,undef,undef,undef,undef,undef,undef,undef,undef,undef,undef,undef,undef,undef,undef,undef,undef,undef,undef,undef],defers:=[] }) ?assign ?body ?done ?stop
 case assign=>
  intro l1 q Wc K1 hK1;gi_wp2;exact hK1
 case body=>
  rintro l1 q Wc hq ⟨HJ,hk⟩ hz;have cx2:=hk.cel (cx.kept b3) kx;have cw2:=hk.cel (cw.kept b3) kw;have cT3:=hk.cel cT2 (hKW _ (Nat.le_refl _));have hx2:=hk.wd (hx.keep b3) ka;have Y:=hY q
  clear hY G cB cT cT2 b1 b2 z1 cx cw hx hy h0;have m4:=cx2.cell 4 rfl;have m5:=cx2.cell 5 rfl;have mw:=cw2.cell 0 rfl;have mt:=cT3.cell 0 rfl;have h20:=fW n mm (by have:=F.hn;omega)
  obtain⟨sE,sX⟩:=xM F q hq;have lowl:numAt (wdF n mm) xs q<2^wdF n mm:=fb _ _
  have hck:am LM xs=true:=by
   have:=F.ik;unfold aP at this;rw[Bool.and_eq_true]at this;exact this.2
  have RS:=ii (bitAt ys) hh;have hge:=RS.step q 0 (by omega);rw[Nat.zero_add]at hge;have hll:=RS.1 q (by omega);have hhl:=(bj _ _ F.ck).2.1;have mn:=Nat.le_trans F.hm F.hn;unfold plq at Y
  generalize gt (plc (bitAt ys) hh) q=at_ at *;generalize wdF n mm=v at *;have SC:=fun w0 h=>xK ao xs cap fx q v LM (by omega) h20 sE sX w0 h;have SC:=aU SC;clear sE sX;generalize numAt v xs q=low at *
  obtain⟨d,hd⟩:∃d,Hid (d=at_-q):=⟨_,rfl⟩;have hd2:(at_:Int)-(q:Int)=(d:Int):=by rw[hd.out];omega
  have dl:d<=1048576:=by rw[hd.out];omega
  rw[<-hd.out]at Y;clear hge hll hhl RS hck
  have eA:((d*2^v+low:Nat):Int)=bits BinOp.or IntKind.i64 (IntKind.i64.wrap (IntKind.i64.wrap (d:Int)*2^v)) (IntKind.i64.wrap (low:Int)):=by
   have p20:2^v<=1048576:=Nat.pow_le_pow_right (show 0<2 by decide) h20;have pd:d*2^v<=1099511627776:=Nat.le_trans (Nat.mul_le_mul dl p20) (by decide)
   have e1:IntKind.i64.wrap (d:Int)=(d:Int):=by rw[IntKind.wrap_i64];omega
   have e2:(d:Int)*2^v=((d*2^v:Nat):Int):=by rw[Int.natCast_mul,Int.natCast_pow];rfl
   have e3:IntKind.i64.wrap ((d*2^v:Nat):Int)=((d*2^v:Nat):Int):=by rw[IntKind.wrap_i64];omega
   have e4:IntKind.i64.wrap (low:Int)=(low:Int):=by rw[IntKind.wrap_i64];omega
   rw[e1,e2,e3,e4,bits_join .i64 63 (by decide) oJ v _ _ (by omega) ?_ (by omega) (by omega) ?_ (by omega)]
   .rfl
   .rw[show((2:Int)^v)=((2^v:Nat):Int)by rw[Int.natCast_pow];rfl,<-Int.natCast_emod,Nat.mul_mod_left];rfl
   .rw[show((2:Int)^v)=((2^v:Nat):Int)by rw[Int.natCast_pow];rfl];omega
  rw[eA]at Y;clear eA;gi_wp2_with fail;refine⟨trivial,rfl,?_⟩;refine(CallsIn.inRound l1 (callsIn_wide.2 (SC.out _ hx2))).mono ?_;rintro e w1 ⟨rfl,hb⟩;replace cw2:=cw2.kept hb;replace cT3:=cT3.kept hb
  have kb:aE K Wc w1:=aE.of hb;have mw:=cw2.cell 0 rfl;have mt:=cT3.cell 0 rfl;clear cx2 m4 m5 SC;gi_wp2_with fail
  refine oT [] (fun w0=>w0.cell? ⟨W.heap.size,0,none⟩=some (.func (.yield l) #[] #[])/\w0.cell? ⟨Bw,0,none⟩=some (.int .i64 v)) (by kernel_rfl) ?_
  have hS:(fun w0:World=>w0.cell? ⟨W.heap.size,0,none⟩=some (.func (.yield l) #[] #[])/\w0.cell? ⟨Bw,0,none⟩=some (.int .i64 v)) w1.drew:=⟨mt,mw⟩
  have HJ1:=hJ q Wc w1.drew HJ ((hb.mono (show W.heap.size<=Wc.heap.size by omega)).drew);obtain⟨fn,tmps,assign,body,hy,hR⟩:=Y w1.drew hq HJ1 (by have:=hb.size;show W.heap.size<=w1.heap.size;omega);clear Y HJ1
  refine aZ.take 0 (v:=?vv1) (cG _) rfl (by kernel_rfl) (by kernel_rfl) (by kernel_rfl) (by kernel_rfl) (by kernel_rfl) (fun _ _ _ h=>h) hS ?hy1 (by rfl) ?rest1
  case hy1=>
   intro w0 h0;have:=h0.1;go_simp;try with_reducible rfl
  simp only[Act.put,aw,ar,an,ah,aj,ai];refine aZ.take 1 (v:=?vv2) (cG _) rfl (by kernel_rfl) (by kernel_rfl) (by kernel_rfl) (by kernel_rfl) (by kernel_rfl) (fun _ _ _ h=>h) hS ?hy2 (by rfl) ?rest2
  case hy2=>
   intro w0 h0;go_simp;try with_reducible rfl
  simp only[Act.put,aw,ar,an,ah,aj,ai];refine aZ.take 2 (v:=?vv3) (cG _) rfl (by kernel_rfl) (by kernel_rfl) (by kernel_rfl) (by kernel_rfl) (by kernel_rfl) (fun _ _ _ h=>h) hS ?hy3 (by rfl) ?rest3
  case hy3=>
   intro w0 h0;go_simp;try with_reducible rfl
  simp only[Act.put,aw,ar,an,ah,aj,ai];refine aZ.take 3 (v:=?vv4) (cG _) rfl (by kernel_rfl) (by kernel_rfl) (by kernel_rfl) (by kernel_rfl) (by kernel_rfl) (fun _ _ _ h=>h) hS ?hy4 (by rfl) ?rest4
  case hy4=>
   intro w0 h0;go_simp;try with_reducible rfl
  simp only[Act.put,aw,ar,an,ah,aj,ai];refine aZ.take 4 (v:=?vv5) (cG _) rfl (by kernel_rfl) (by kernel_rfl) (by kernel_rfl) (by kernel_rfl) (by kernel_rfl) (fun _ _ _ h=>h) hS ?hy5 (by rfl) ?rest5
  case hy5=>
   intro w0 h0;go_simp;try with_reducible rfl
  simp only[Act.put,aw,ar,an,ah,aj,ai];refine aZ.take 5 (v:=?vv6) (cG _) rfl (by kernel_rfl) (by kernel_rfl) (by kernel_rfl) (by kernel_rfl) (by kernel_rfl) (fun _ _ _ h=>h) hS ?hy6 (by rfl) ?rest6
  case hy6=>
   intro w0 h0;have:=h0.2;go_simp;try with_reducible rfl
  simp only[Act.put,aw,ar,an,ah,aj,ai];refine aZ.take 6 (v:=?vv7) (cG _) rfl (by kernel_rfl) (by kernel_rfl) (by kernel_rfl) (by kernel_rfl) (by kernel_rfl) (fun _ _ _ h=>h) hS ?hy7 (by rfl) ?rest7
  case hy7=>
   intro w0 h0;go_simp;try with_reducible rfl
  simp only[Act.put,aw,ar,an,ah,aj,ai];refine aZ.take 7 (v:=?vv8) (cG _) rfl (by kernel_rfl) (by kernel_rfl) (by kernel_rfl) (by kernel_rfl) (by kernel_rfl) (fun _ _ _ h=>h) hS ?hy8 (by rfl) ?rest8
  case hy8=>
   intro w0 h0;go_simp;try with_reducible rfl
  simp only[Act.put,aw,ar,an,ah,aj,ai];refine aZ.take 8 (v:=?vv9) (cG _) rfl (by kernel_rfl) (by kernel_rfl) (by kernel_rfl) (by kernel_rfl) (by kernel_rfl) (fun _ _ _ h=>h) hS ?hy9 (by rfl) ?rest9
  case hy9=>
   intro w0 h0;go_simp;try with_reducible rfl
  simp only[Act.put,aw,ar,an,ah,aj,ai];refine aZ.take 9 (v:=?vv10) (cG _) rfl (by kernel_rfl) (by kernel_rfl) (by kernel_rfl) (by kernel_rfl) (by kernel_rfl) (fun _ _ _ h=>h) hS ?hy10 (by rfl) ?rest10
  case hy10=>
   intro w0 h0;go_simp;try with_reducible rfl
  simp only[Act.put,aw,ar,an,ah,aj,ai];refine aZ.one 10 (cG _) (by kernel_rfl) rfl (fun _ h=>by cases h) (by rfl) ?_;intro K2 hK2;go_simp;refine⟨rfl,RoundIn.mono hR ?_⟩
  rintro e W3 ⟨hkp,⟨rfl,hJ3⟩ | ⟨rfl,hJx3⟩⟩
  .have HE:Hid (aE K Wc W3/\J (q+1) W3/\aE K w' W3):=⟨kb.trans ⟨hkp.os,hkp.tape,hkp.output,hkp.size,hkp.same⟩,hJ3,hk.trans (kb.trans ⟨hkp.os,hkp.tape,hkp.output,hkp.size,hkp.same⟩)⟩
   have hS3:W3.cell? ⟨W.heap.size,0,none⟩=some (.func (.yield l) #[] #[])/\W3.cell? ⟨Bw,0,none⟩=some (.int .i64 v):=⟨(hkp.cel cT3.drew (hKW _ (Nat.le_refl _))).cell 0 rfl,(hkp.cel cw2.drew kw).cell 0 rfl⟩
   refine hK2.out _ _ (fun _=>hS3) ?_;clear hK2 K2;try simp only[Act.put,aw,ar,an,ah,aj,ai]
   refine aZ.take 11 (v:=?vv31) (cG _) rfl (by kernel_rfl) (by kernel_rfl) (by kernel_rfl) (by kernel_rfl) (by kernel_rfl) (fun _ _ _ h=>h) hS3 ?hy31 (by rfl) ?rest31
   case hy31=>
    intro w0 h0;go_simp;try with_reducible rfl
   simp only[Act.put,aw,ar,an,ah,aj,ai];refine aZ.done (by kernel_rfl) ?_ _;skip;gi_wp2;exact HE.out
  .have HE:Hid (aE K Wc W3/\Jx q W3):=⟨kb.trans ⟨hkp.os,hkp.tape,hkp.output,hkp.size,hkp.same⟩,hJx3⟩
   have hS3:W3.cell? ⟨W.heap.size,0,none⟩=some (.func (.yield l) #[] #[])/\W3.cell? ⟨Bw,0,none⟩=some (.int .i64 v):=⟨(hkp.cel cT3.drew (hKW _ (Nat.le_refl _))).cell 0 rfl,(hkp.cel cw2.drew kw).cell 0 rfl⟩
   refine hK2.out _ _ (fun _=>hS3) ?_;clear hK2 K2;try simp only[Act.put,aw,ar,an,ah,aj,ai]
   refine aZ.take 11 (v:=?vv41) (cG _) rfl (by kernel_rfl) (by kernel_rfl) (by kernel_rfl) (by kernel_rfl) (by kernel_rfl) (fun _ _ _ h=>h) hS3 ?hy41 (by rfl) ?rest41
   case hy41=>
    intro w0 h0;go_simp;try with_reducible rfl
   simp only[Act.put,aw,ar,an,ah,aj,ai];refine aZ.done (by kernel_rfl) ?_ _;skip;gi_wp2;exact HE.out
 case done=>
  rintro D Wc hD ⟨HJ,hk⟩ hd;go_wp2;exact Db hd (results_none rfl _ _ _) ⟨⟨_,rfl⟩,.inl (hJ _ _ _ HJ (dZ (by omega) _))⟩
 case stop=>
  rintro D q Wc hD hq HJ hd;go_wp2;exact gk hd (results_none rfl _ _ _) ⟨⟨_,rfl⟩,.inr ⟨q,hq,hJx _ _ _ HJ (dZ (by omega) _)⟩⟩
theorem k6(n mm kn vn hh:Nat)(LM:Int)(ao:Option Addr)(xs:List Nat)(cap:Nat)(qo:Option Addr)(ys:List Nat)(dap:Nat)(hn:n<=1048576)(hm:mm<=n)(w:World):
  Calls prog 134 #[.agg #[.int .i64 n,.int .i64 mm,.int .i64 kn,.int .i64 vn,.int .i64 LM,.slice ao xs.length cap,.int .i64 hh,.slice qo ys.length dap]] w fun e w'=>e=.returned (.func (.func 176) #[] #[.pointer (some ⟨w.heap.size,0,none⟩),.pointer (some ⟨w.heap.size+1,0,none⟩)])/\aa w' w.heap.size [.int .i64 n,.int .i64 mm,.int .i64 kn,.int .i64 vn,.int .i64 LM,.slice ao xs.length cap,.int .i64 hh,.slice qo ys.length dap] 61/\aa w' (w.heap.size+1) [.int .i64 (wdF n mm:Nat)] 3/\w'.heap.size=w.heap.size+2/\Below w.heap.size w w':=by
 have C:Hid (∀w0,Qx 150 #[.int .i64 n,.int .i64 mm] w0 (.int .i64 (wdF n mm))):=fun w0=>nZ n mm hn hm w0;generalize wdF n mm=v at *
 obtain⟨W,hW⟩:∃W,W=w.alloc (.cells #[.int .i64 n,.int .i64 mm,.int .i64 kn,.int .i64 vn,.int .i64 LM,.slice ao xs.length cap,.int .i64 hh,.slice qo ys.length dap] 61):=⟨_,rfl⟩
 have bW:=ba hW;have zW:W.heap.size=w.heap.size+1:=by rw[hW];simp
 have B1:=bE hW;go_enter func134,ntmps134;go_wp2_with fail;rw[<-hW];refine mr (C.out _) fun w1 h1=>?_;rw[h1];clear h1 w1 hW;have bA:=below_alloc W (.cells #[.int .i64 v] 3)
 have HZ:Hid (aa (W.alloc (.cells #[.int .i64 v] 3)) w.heap.size [.int .i64 n,.int .i64 mm,.int .i64 kn,.int .i64 vn,.int .i64 LM,.slice ao xs.length cap,.int .i64 hh,.slice qo ys.length dap] 61/\aa (W.alloc (.cells #[.int .i64 v] 3)) (w.heap.size+1) [.int .i64 v] 3/\(W.alloc (.cells #[.int .i64 v] 3)).heap.size=w.heap.size+2/\Below w.heap.size w (W.alloc (.cells #[.int .i64 v] 3))):=⟨B1.kept bA,by rw[<-zW];exact aa.new W _ _,by simp[zW],bg bW bA⟩
 clear B1 bA bW;go_wp2;go_ret;exact⟨rfl,HZ.out⟩
end Go.Proofs.YtleegaihbgbcjabGreatDoor
namespace Go.Proofs.YtleegaihbgbcjabGreatDoor
open Num Bit
abbrev bF:=FA
def lq(a b:FA):Bool:=decide (a.N=b.N)&&decide (a.M=b.M)&&(decide (a.k=b.k)&&decide (a.V=b.V)&&(decide (a.LM=b.LM)&&decide (a.xs=b.xs)))&&(decide (a.H=b.H)&&decide (a.ys=b.ys))
theorem qp(a b:FA):lq a b=true↔a=b:=by
 obtain⟨a1,a2,a3,a4,a5,a6,a7,a8⟩:=a;obtain⟨b1,b2,b3,b4,b5,b6,b7,b8⟩:=b;unfold lq;simp only[Bool.and_eq_true,decide_eq_true_eq,FA.mk.injEq];constructor
 .rintro⟨⟨⟨rfl,rfl⟩,⟨rfl,rfl⟩,rfl,rfl⟩,rfl,rfl⟩;exact⟨rfl,rfl,rfl,rfl,rfl,rfl,rfl,rfl⟩
 .rintro⟨rfl,rfl,rfl,rfl,rfl,rfl,rfl,rfl⟩;exact⟨⟨⟨rfl,rfl⟩,⟨rfl,rfl⟩,rfl,rfl⟩,rfl,rfl⟩
def kOk9(a:bF):Bool:=
 match dv a with
 | some l=>lq a (aG a.N.toNat l)
 | none=>false
def kRow(a:bF):List Nat:=(dv a).getD []
def kBN9(a:bF):Int:=if kOk9 a=true then a.N else 0
def kBX9(a:bF):List Nat:=if kOk9 a=true then rowOf a.N.toNat (isIn (kRow a))else []
def kZ9(a:bF):Int:=if kOk9 a=true then a.LM+a.H+64 else 0
def kB9(N:Int)(xs:List Nat):bF:=if am N xs=true then aG N.toNat (plc (bitAt xs) N.toNat)else ⟨0,0,0,0,0,[],0,[]⟩
def kE9(N:Int)(xs:List Nat):Int:=if am N xs=true then 0 else 2
theorem mg(a:bF)(h:kOk9 a=true):dv a=some (kRow a)/\a=aG a.N.toNat (kRow a):=by
 unfold kOk9 at h;unfold kRow;cases e:dv a with
 | none=>rw[e]at h;cases h
 | some l=>
  rw[e]at h;exact⟨rfl,(qp _ _).1 h⟩
theorem Fy(n w:Nat)(lo hi:List Nat):∀q out,bJ n w lo hi q=some out->∀j,j<q->gt out j=dX w lo hi j:=by
 intro q;induction q with
 | zero=>intro out _ j hj;omega
 | succ q ih=>
  intro out h j hj;rw[bJ]at h;cases hq:bJ n w lo hi q with
  | none=>rw[hq]at h;cases h
  | some o=>
   rw[hq]at h;have hlen:=(lp n w lo hi q o hq).1;simp only at h;split at h
   .cases h
   .obtain rfl:=Option.some.inj h;by_cases c:j<q
    .rw[ju o _ j (by omega)];exact ih o hq j c
    .obtain rfl:j=o.length:=by omega
     rw[kY,hlen]
theorem uH(m:Nat)(f:Nat->Nat)(i:Nat)(h:i<m):gt ((List.range m).map f) i=f i:=by
 unfold gt;rw[List.getD_eq_getElem?_getD,List.getElem?_map,List.getElem?_range h];rfl
theorem Fx(n w:Nat)(lo hi:List Nat):∀m,(∀q,q<m->dX w lo hi q<n/\(0<q->dX w lo hi (q-1)<dX w lo hi q))->bJ n w lo hi m=some ((List.range m).map (dX w lo hi)):=by
 intro m;induction m with
 | zero=>intro _;rfl
 | succ m ih=>
  intro h;rw[bJ,ih (fun q hq=>h q (by omega))];simp only;obtain⟨h1,h2⟩:=h m (by omega);rw[if_neg,List.range_succ,List.map_append]
  .rfl
  .rintro(c | ⟨c1,c2⟩)
   .omega
   .rw[uH m _ _ (by omega)]at c2;have:=h2 c1;omega
def oH(n mm:Nat)(p:Nat->Nat):Prop:=∀q,q<mm->p q<n/\(0<q->p (q-1)<p q)
theorem iS(n mm kn vn hh:Nat)(LM:Int)(xs ys:List Nat)(h:kOk9 ⟨n,mm,kn,vn,LM,xs,hh,ys⟩=true):
  gE n mm kn vn LM xs hh ys/\(kRow ⟨n,mm,kn,vn,LM,xs,hh,ys⟩).length=mm/\(∀q,q<mm->plq n mm xs hh ys q=gt (kRow ⟨n,mm,kn,vn,LM,xs,hh,ys⟩) q)/\bi (kRow ⟨n,mm,kn,vn,LM,xs,hh,ys⟩) n:=by
 obtain⟨h1,h2⟩:=mg _ h;generalize kRow ⟨n,mm,kn,vn,LM,xs,hh,ys⟩=l at *;unfold dv at h1;simp only[Int.toNat_natCast]at h1;split at h1
 .rename_i c;obtain⟨⟨c1,c2,c3,c4⟩,c5,c6,c7,c8⟩:=c;have c7:(plc (bitAt ys) hh).length=mm:=by omega
  obtain⟨l1,l2⟩:=lp _ _ _ _ _ _ h1;rw[c7]at l1;have l3:=Fy _ _ _ _ _ _ h1;rw[c7]at l3;simp only[Int.toNat_natCast,aG,FA.mk.injEq,l1]at h2;obtain⟨-, -,e3,e4, -, -,e7, -⟩:=h2
  have F:gE n mm kn vn LM xs hh ys:=by
   refine⟨by omega,by omega,c5,c6,c7,by omega,?_,?_⟩
   .unfold loN;by_cases c:wdF n mm=0
    .rw[if_pos c];rw[c]at e3;have:loP l 0=[]:=rfl;rw[this]at e3;simp at e3;omega
    .rw[if_neg c];rw[iW l _ (by omega)]at e3;omega
   .unfold hiN at e7;rw[l1]at e7;omega
  exact⟨F,l1,fun q hq=>by rw[l3 q hq,oe F q hq],l2⟩
 .cases h1
theorem sS(n mm:Nat)(xs:List Nat)(hh:Nat)(ys:List Nat)(q:Nat):plq n mm xs hh ys q/2^wdF n mm=gt (plc (bitAt ys) hh) q-q/\plq n mm xs hh ys q%2^wdF n mm=numAt (wdF n mm) xs q:=by
 unfold plq;have h:numAt (wdF n mm) xs q<2^wdF n mm:=fb _ _;have hp:=Nat.two_pow_pos (wdF n mm);rw[Nat.mul_comm,Nat.mul_add_div hp,Nat.mul_add_mod,Nat.mod_eq_of_lt h,Nat.div_eq_of_lt h];exact⟨rfl,rfl⟩
theorem uq(f:Nat->Bool)(n j:Nat):isIn (plc f n) j=(decide (j<n)&&f j):=by
 rw[Bool.eq_iff_iff,tP,tN,Bool.and_eq_true,decide_eq_true_eq]
theorem Fg(n mm kn vn hh:Nat)(LM:Int)(xs ys:List Nat)(fx:aA xs)(fy:aA ys)(F:gE n mm kn vn LM xs hh ys)(G:oH n mm (plq n mm xs hh ys)):kOk9 ⟨n,mm,kn,vn,LM,xs,hh,ys⟩=true:=by
 have hd:bJ n (wdF n mm) ((List.range kn).map (numAt vn xs)) (plc (bitAt ys) hh) mm=some ((List.range mm).map (plq n mm xs hh ys)):=by
  rw[Fx _ _ _ _ mm]
  .congr 1;refine List.map_congr_left fun q hq=>?_;exact oe F q (List.mem_range.1 hq)
  .intro q hq;rw[oe F q hq];obtain⟨g1,g2⟩:=G q hq;refine⟨g1,fun h0=>?_⟩;rw[oe F (q-1) (by omega)];exact g2 h0
 have hrow:dv ⟨n,mm,kn,vn,LM,xs,hh,ys⟩=some ((List.range mm).map (plq n mm xs hh ys)):=by
  unfold dv;simp only[Int.toNat_natCast,F.on];rw[if_pos]
  .exact hd
  .refine⟨⟨by omega,by have:=F.hn;omega,by omega,by have:=F.hm;omega⟩,F.ik,F.ck,trivial,?_⟩;by_cases c:wdF n mm=0
   .exact .inl c
   .right;rw[List.length_map,List.length_range,F.hk];unfold loN;rw[if_neg c]
 unfold kOk9;rw[hrow];simp only[Int.toNat_natCast];rw[qp];obtain⟨l,hl⟩:∃l,l=(List.range mm).map (plq n mm xs hh ys):=⟨_,rfl⟩;have ll:l.length=mm:=by rw[hl];simp
 have lg:∀q,q<mm->gt l q=plq n mm xs hh ys q:=fun q hq=>by rw[hl];exact uH mm _ q hq
 rw[<-hl];have RS:=ii (bitAt ys) hh
 have e_hi:hiP l (wdF n mm)=plc (bitAt ys) hh:=by
  refine Bit.list_ext _ _ (by rw[kP,ll,F.on]) fun i hi=>?_;rw[kP,ll]at hi;rw[kX l _ i (by omega),lg i hi,(sS n mm xs hh ys i).1];have:=RS.step i 0 (by rw[F.on];omega)
  rw[Nat.zero_add]at this;omega
 obtain⟨v1,v2,v3,v4,v5,v6,v7,v8⟩:=dP _ _ _ _ F.ik
 have e_lo:(loP l (wdF n mm)).length=kn:=by
  rw[F.hk];unfold loN;by_cases c:wdF n mm=0
  .rw[if_pos c,c];rfl
  .rw[if_neg c,iW l _ (by omega),ll]
 have e_xs:mkS (loP l (wdF n mm)) vn kn=xs:=by
  have hx:=j2 LM xs fx v5;rw[hx];unfold mkS;rw[e_lo,show LM.toNat=kn*vn by rw[<-v4,<-Int.natCast_mul,Int.toNat_natCast]];refine di _ _ _ fun j hj=>?_;rw[decide_eq_true hj,Bool.true_and]
  have hw:¬wdF n mm=0:=fun c=>by
   have h0:kn=0:=by rw[F.hk];unfold loN;rw[if_pos c]
   rw[h0,Nat.zero_mul]at hj;omega
  have e1:vn=wdF n mm:=by rw[F.hv];omega
  have e2:kn=mm:=by rw[F.hk];unfold loN;rw[if_neg hw]
  have hv0:0<vn:=by omega
  have hq:j/vn<mm:=by rw[<-e2];exact(Nat.div_lt_iff_lt_mul hv0).2 hj
  have hmod:j%vn<vn:=Nat.mod_lt _ hv0;rw[n_ l _ _ (by omega) (by omega),lg _ hq,(sS n mm xs hh ys _).2,<-e1];unfold numAt
  rw[iM,decide_eq_true hmod,Bool.true_and,Nat.mul_comm,Nat.div_add_mod]
 unfold aG;simp only[FA.mk.injEq,ll];have hv:((max (wdF n mm) 1:Nat):Int)=(vn:Int):=by rw[F.hv]
 have hv2:max (wdF n mm) 1=vn:=F.hv.symm;refine⟨trivial,trivial,by rw[e_lo],hv.symm,?_,?_,?_,?_⟩
 .rw[e_lo,hv,v4]
 .rw[hv2,e_lo,e_xs]
 .unfold hiN;rw[ll,F.hh]
 .rw[e_hi];have e3:hiN l n (wdF n mm)=hh:=by unfold hiN;rw[ll,F.hh]
  rw[e3];have hy:=j2 (hh:Int) ys fy F.ck;rw[Int.toNat_natCast]at hy;rw[di hh _ (bitAt ys) fun j hj=>by rw[uq,decide_eq_true hj,Bool.true_and]];exact hy
open Go.RowKit Go.Shelf Num Bit
attribute [local go_sem] Oper.semAt_some
theorem Wd.blk{w:World}{ao:Option Addr}{xs:List Nat}(h:Wd w ao xs){p:Addr}(hp:ao=some p)(h0:0<xs.length):p.block<w.heap.size:=by
 obtain⟨g,off,e,hg,_⟩:=h h0;rw[e]at hp;cases hp;exact hg
theorem aa.at{w:World}{b b':Nat}{cs:List Value}{T:TypeId}(h:aa w b cs T)(e:b=b'):aa w b' cs T:=e ▸ h
theorem aa.put{w:World}{b D:Nat}{cs:List Value}{T:TypeId}(h:aa w b cs T)(o:Obj)(e:b≠D):aa (w.putObj D o) b cs T:=(World.putObj_heap_other e).trans h
theorem Ej{l:List Nat}{n:Nat}(hr:bi l n)(i q:Nat)(hq:q<l.length)(h1:∀j,j<q->gt l j<i)(h2:i<=gt l q):isIn l i=decide (gt l q=i):=by
 by_cases c:gt l q=i
 .rw[decide_eq_true c,gw];exact⟨q,hq,c⟩
 .rw[decide_eq_false c];refine Bool.eq_false_iff.2 fun h=>?_;obtain⟨j,hj,e⟩:=(gw l i).1 h;by_cases d:j<q
  .have:=h1 j d;omega
  .by_cases e2:j=q
   .subst e2;exact c e
   .have:=hr.lt (show q<j by omega) hj;omega
theorem Ei{l:List Nat}(i:Nat)(h1:∀j,j<l.length->gt l j<i):isIn l i=false:=by
 refine Bool.eq_false_iff.2 fun h=>?_;obtain⟨j,hj,e⟩:=(gw l i).1 h;have:=h1 j hj;omega
theorem EO(n mm kn vn hh:Nat)(LM:Int)(ao:Option Addr)(xs:List Nat)(cap:Nat)(qo:Option Addr)(ys:List Nat)(dap:Nat)(l:List Nat)(w:World)(F:gE n mm kn vn LM xs hh ys)(hx:Wd w ao xs)(fx:aA xs)(hy:Wd w qo ys)(fy:aA ys)(hl:l.length=mm)(hg:∀q,q<mm->plq n mm xs hh ys q=gt l q)(hr:bi l n)(i:Nat)(hi:i<=1048576):
  Qq 104 #[.agg #[.int .i64 n,.int .i64 mm,.int .i64 kn,.int .i64 vn,.int .i64 LM,.slice ao xs.length cap,.int .i64 hh,.slice qo ys.length dap],.int .i64 i] w (.bool (isIn l i)):=by
 refine(callsIn_wide (n:=0)).1 (callsIn_of_wp_marks func104 rfl trivial ?_)
 simp only[ntmps104,List.size_toArray,List.length_cons,List.length_nil,Nat.reduceAdd,Nat.reduceSub,Array.replicate_succ,Array.replicate_zero,List.push_toArray,List.append_toArray,List.nil_append,List.cons_append]
 refine wpIn_wide.2 ?_
 have PC:Hid (∀w0,Calls prog 134 #[.agg #[.int .i64 n,.int .i64 mm,.int .i64 kn,.int .i64 vn,.int .i64 LM,.slice ao xs.length cap,.int .i64 hh,.slice qo ys.length dap]] w0 fun e w'=>e=.returned (.func (.func 176) #[] #[.pointer (some ⟨w0.heap.size,0,none⟩),.pointer (some ⟨w0.heap.size+1,0,none⟩)])/\aa w' w0.heap.size [.int .i64 n,.int .i64 mm,.int .i64 kn,.int .i64 vn,.int .i64 LM,.slice ao xs.length cap,.int .i64 hh,.slice qo ys.length dap] 61/\aa w' (w0.heap.size+1) [.int .i64 (wdF n mm:Nat)] 3/\w'.heap.size=w0.heap.size+2/\Below w0.heap.size w0 w'):=fun w0=>k6 n mm kn vn hh LM ao xs cap qo ys dap F.hn F.hm w0
 obtain⟨W1,hW1⟩:∃W1,W1=((w.alloc (.cells #[.int .i64 n,.int .i64 mm,.int .i64 kn,.int .i64 vn,.int .i64 LM,.slice ao xs.length cap,.int .i64 hh,.slice qo ys.length dap] 61)).alloc (.cells #[.int .i64 i] 3)).alloc (.cells #[.bool false] 4):=⟨_,rfl⟩
 have z1:W1.heap.size=w.heap.size+3:=by rw[hW1];simp
 have b1:Below w.heap.size w W1:=by rw[hW1];exact(((below_alloc w _).alloc (by simp only[World.size_alloc];omega) _).alloc (by simp only[World.size_alloc];omega) _)
 have c0:aa W1 (w.heap.size+0) [.int .i64 n,.int .i64 mm,.int .i64 kn,.int .i64 vn,.int .i64 LM,.slice ao xs.length cap,.int .i64 hh,.slice qo ys.length dap] 61:=by rw[hW1];exact((((aa.new _ _ _).alloc _).alloc _)).at (by simp)
 have c1:aa W1 (w.heap.size+1) [.int .i64 i] 3:=by rw[hW1];exact(((aa.new _ _ _).alloc _)).at (by simp)
 have c2:aa W1 (w.heap.size+2) [.bool false] 4:=by rw[hW1];exact((aa.new _ _ _)).at (by simp)
 go_wp2_with fail;rw[<-hW1];clear hW1;refine(PC.out _).mono ?_;rintro e w' ⟨rfl,cx,cw,z2,b2⟩;rw[z1]at cx cw z2;rw[z1];have b3:Below w.heap.size w w':=bg b1 b2;replace c0:=c0.kept b2
 replace c1:=c1.kept b2;replace c2:=c2.kept b2;go_wp2;clear b1 b2 PC
 have G:=(kD n mm kn vn hh LM ao xs cap qo ys dap (fun b=>b≠w.heap.size+2/\b≠w'.heap.size+1) w' (w.heap.size+3) (w.heap.size+4) F (hx.keep b3) fx (hy.keep b3) fy cx cw (by omega) (by omega) (fun p hp h0=>by have:=hx.blk hp h0;omega) (fun p hp h0=>by have:=hy.blk hp h0;omega)).enc (enc':=fun q=>#[.int .i64 q,.int .i64 (gt l q:Nat)]) (fun q hq=>by rw[hg q hq])
 refine iR (gf:=176) (lb:=#[.pointer (some ⟨w.heap.size+3,0,none⟩),.pointer (some ⟨w.heap.size+4,0,none⟩)]) (K:=fun b=>b≠w.heap.size+2) rfl (enters_of func176 (by kernel_rfl) rfl) (fun _=>rfl) G (fun b hb=>by omega)
  (fun q Wc=>aE (fun b=>b≠w.heap.size+2) w' Wc/\aa Wc (w.heap.size+2) [.bool false] 4/\∀j,j<q->gt l j<i) (fun q Wc=>aE (fun b=>b≠w.heap.size+2) w' Wc/\aa Wc (w.heap.size+2) [.bool (isIn l i)] 4) (fun q A B h hb=>⟨h.1.more hb (Nat.le_refl _),h.2.1.keep hb (by omega),h.2.2⟩) (fun q A B h hb=>⟨h.1.more hb (Nat.le_refl _),h.2.keep hb (by omega)⟩) ⟨aE.refl _ _,c2,fun j hj=>absurd hj (by omega)⟩
  (fun q=>{ tmps:=#[.agg #[.int .i64 n,.int .i64 mm,.int .i64 kn,.int .i64 vn,.int .i64 LM,.slice ao xs.length cap,.int .i64 hh,.slice qo ys.length dap],.int .i64 i,.pointer (some ⟨w.heap.size,0,none⟩),.pointer (some ⟨w.heap.size+1,0,none⟩),.pointer (some ⟨w.heap.size+2,0,none⟩),undef,.int .i64 (gt l q:Nat),.agg #[.int .i64 n,.int .i64 mm,.int .i64 kn,.int .i64 vn,.int .i64 LM,.slice ao xs.length cap,.int .i64 hh,.slice qo ys.length dap],.func (.func 176) #[] #[.pointer (some ⟨w.heap.size+3,0,none⟩),.pointer (some ⟨w.heap.size+4,0,none⟩)],.int .i64 (q:Nat),.int .i64 (gt l q:Nat),undef,undef,undef,undef,undef,undef],defers:=[] }) ?assign ?body ?done ?stop
 case assign=>
  intro l1 q Wc K1 hK1;gi_wp2;exact hK1
 case body=>
  rintro l1 q Wc hq ⟨hk,cR,hlt⟩ hz;have cI:=(hk.cel c1 (by omega)).cell 0 rfl;have r0:=cR.cell 0 rfl;have r1:=cR.frozen 0;clear G;have HV:=aU (Ej hr i q (by omega) hlt);by_cases hge:i<=gt l q
  .have hge2:(i:Int)<=(gt l q:Int):=by omega
   have HX:Hid (aE (fun b=>b≠w.heap.size+2) Wc (Wc.setCell ⟨w.heap.size+2,0,none⟩ (.bool (isIn l i)))/\aE (fun b=>b≠w.heap.size+2) w' (Wc.setCell ⟨w.heap.size+2,0,none⟩ (.bool (isIn l i)))/\aa (Wc.setCell ⟨w.heap.size+2,0,none⟩ (.bool (isIn l i))) (w.heap.size+2) [.bool (isIn l i)] 4):=⟨(aE.refl _ _).setCell (fun h=>h rfl) _,hk.setCell (fun h=>h rfl) _,cR.set 0 _⟩
   rw[HV.out hge]at HX;rw[show decide (gt l q=i)=((gt l q:Int)==(i:Int))by rw[Bool.eq_iff_iff];simp;omega]at HX;gi_wp2;refine⟨HX.out.1,HX.out.2.1,?_⟩
   rw[HV.out hge,show decide (gt l q=i)=((gt l q:Int)==(i:Int))by rw[Bool.eq_iff_iff];simp;omega];exact HX.out.2.2
  .have hge2:¬(i:Int)<=(gt l q:Int):=by omega
   gi_wp2
   exact⟨aE.refl _ _,hk,cR,fun j hj=>by
    by_cases e:j=q
    .subst e;omega
    .exact hlt j (by omega)⟩
 case done=>
  rintro D Wc hD ⟨hk,cR,hlt⟩ hd;have r0:=cR.cell 0 rfl;have r1:=cR.frozen 0;have hB:=aU ((hk.below (B:=w.heap.size) (fun x h=>by omega) (by omega)))
  have HE:=aU (Ei (l:=l) i (fun j hj=>hlt j (by omega)));have hb:=aU (hB.out.setCell (p:=⟨w.heap.size+2,0,none⟩) (show w.heap.size<=w.heap.size+2 by omega) (.bool false))
  have cS:=aU (cR.set 0 (.bool false));have hd2:=aU ((Below.heap_setCell Wc ⟨w.heap.size+2,0,none⟩ (.bool false) D (show D≠w.heap.size+2 by omega)).trans hd);clear hd hk;go_wp2
  have cR2:=(cS.out.put (.deferred none) (show w.heap.size+2≠D by omega)).cell 0 rfl
  exact gk hd2.out (v:=.bool (isIn l i)) (by rw[HE.out];simp[results,Tryz.results104,go_sem,cR2]) ⟨rfl,b3.trans (hb.out.trans (dZ (by omega) _))⟩
 case stop=>
  rintro D q Wc hD hq ⟨hk,cR⟩ hd;go_wp2;have cR2:=(cR.put (.deferred none) (show w.heap.size+2≠D by omega)).cell 0 rfl
  exact gk hd (v:=.bool (isIn l i)) (by simp[results,Tryz.results104,go_sem,cR2]) ⟨rfl,b3.trans ((hk.below (fun x h=>by omega) (by omega)).trans (dZ (by omega) _))⟩
structure oI (l:List Nat) (i c:Nat):Prop where
 le:c<=l.length
 lo:∀j,j<c->gt l j<i
 hi:∀j,c<=j->j<l.length->i<=gt l j
theorem oI.eq{l:List Nat}{i c q:Nat}(h:oI l i c)(hq:q<=l.length)(h1:∀j,j<q->gt l j<i)(h2:q<l.length->i<=gt l q):c=q:=by
 by_cases a:c<q
 .have:=h1 c a;have:=h.hi c (Nat.le_refl _) (by omega);omega
 .by_cases b:q<c
  .have:=h.lo q b;have:=h.le;have:=h2 (by omega);omega
  .omega
theorem EJ(n mm kn vn hh:Nat)(LM:Int)(ao:Option Addr)(xs:List Nat)(cap:Nat)(qo:Option Addr)(ys:List Nat)(dap:Nat)(l:List Nat)(w:World)(F:gE n mm kn vn LM xs hh ys)(hx:Wd w ao xs)(fx:aA xs)(hy:Wd w qo ys)(fy:aA ys)(hl:l.length=mm)(hg:∀q,q<mm->plq n mm xs hh ys q=gt l q)(hr:bi l n)(i:Nat)(hi:i<=1048576)(c:Nat)(hc:oI l i c):
  Qq 129 #[.agg #[.int .i64 n,.int .i64 mm,.int .i64 kn,.int .i64 vn,.int .i64 LM,.slice ao xs.length cap,.int .i64 hh,.slice qo ys.length dap],.int .i64 i] w (.int .i64 c):=by
 refine(callsIn_wide (n:=0)).1 (callsIn_of_wp_marks func129 rfl trivial ?_)
 simp only[ntmps129,List.size_toArray,List.length_cons,List.length_nil,Nat.reduceAdd,Nat.reduceSub,Array.replicate_succ,Array.replicate_zero,List.push_toArray,List.append_toArray,List.nil_append,List.cons_append]
 refine wpIn_wide.2 ?_
 have PC:Hid (∀w0,Calls prog 134 #[.agg #[.int .i64 n,.int .i64 mm,.int .i64 kn,.int .i64 vn,.int .i64 LM,.slice ao xs.length cap,.int .i64 hh,.slice qo ys.length dap]] w0 fun e w'=>e=.returned (.func (.func 176) #[] #[.pointer (some ⟨w0.heap.size,0,none⟩),.pointer (some ⟨w0.heap.size+1,0,none⟩)])/\aa w' w0.heap.size [.int .i64 n,.int .i64 mm,.int .i64 kn,.int .i64 vn,.int .i64 LM,.slice ao xs.length cap,.int .i64 hh,.slice qo ys.length dap] 61/\aa w' (w0.heap.size+1) [.int .i64 (wdF n mm:Nat)] 3/\w'.heap.size=w0.heap.size+2/\Below w0.heap.size w0 w'):=fun w0=>k6 n mm kn vn hh LM ao xs cap qo ys dap F.hn F.hm w0
 obtain⟨W1,hW1⟩:∃W1,W1=((w.alloc (.cells #[.int .i64 n,.int .i64 mm,.int .i64 kn,.int .i64 vn,.int .i64 LM,.slice ao xs.length cap,.int .i64 hh,.slice qo ys.length dap] 61)).alloc (.cells #[.int .i64 i] 3)).alloc (.cells #[.int .i64 0] 3):=⟨_,rfl⟩
 have z1:W1.heap.size=w.heap.size+3:=by rw[hW1];simp
 have b1:Below w.heap.size w W1:=by rw[hW1];exact(((below_alloc w _).alloc (by simp only[World.size_alloc];omega) _).alloc (by simp only[World.size_alloc];omega) _)
 have c0:aa W1 (w.heap.size+0) [.int .i64 n,.int .i64 mm,.int .i64 kn,.int .i64 vn,.int .i64 LM,.slice ao xs.length cap,.int .i64 hh,.slice qo ys.length dap] 61:=by rw[hW1];exact((((aa.new _ _ _).alloc _).alloc _)).at (by simp)
 have c1:aa W1 (w.heap.size+1) [.int .i64 i] 3:=by rw[hW1];exact(((aa.new _ _ _).alloc _)).at (by simp)
 have c2:aa W1 (w.heap.size+2) [.int .i64 0] 3:=by rw[hW1];exact((aa.new _ _ _)).at (by simp)
 go_wp2_with fail;rw[<-hW1];clear hW1;refine(PC.out _).mono ?_;rintro e w' ⟨rfl,cx,cw,z2,b2⟩;rw[z1]at cx cw z2;rw[z1];have b3:Below w.heap.size w w':=bg b1 b2;replace c0:=c0.kept b2
 replace c1:=c1.kept b2;replace c2:=c2.kept b2;go_wp2;clear b1 b2 PC
 have G:=(kD n mm kn vn hh LM ao xs cap qo ys dap (fun b=>b≠w.heap.size+2/\b≠w'.heap.size+1) w' (w.heap.size+3) (w.heap.size+4) F (hx.keep b3) fx (hy.keep b3) fy cx cw (by omega) (by omega) (fun p hp h0=>by have:=hx.blk hp h0;omega) (fun p hp h0=>by have:=hy.blk hp h0;omega)).enc (enc':=fun q=>#[.int .i64 q,.int .i64 (gt l q:Nat)]) (fun q hq=>by rw[hg q hq])
 refine iR (gf:=176) (lb:=#[.pointer (some ⟨w.heap.size+3,0,none⟩),.pointer (some ⟨w.heap.size+4,0,none⟩)]) (K:=fun b=>b≠w.heap.size+2) rfl (enters_of func176 (by kernel_rfl) rfl) (fun _=>rfl) G (fun b hb=>by omega)
  (fun q Wc=>aE (fun b=>b≠w.heap.size+2) w' Wc/\aa Wc (w.heap.size+2) [.int .i64 0] 3/\∀j,j<q->gt l j<i) (fun q Wc=>aE (fun b=>b≠w.heap.size+2) w' Wc/\aa Wc (w.heap.size+2) [.int .i64 c] 3) (fun q A B h hb=>⟨h.1.more hb (Nat.le_refl _),h.2.1.keep hb (by omega),h.2.2⟩) (fun q A B h hb=>⟨h.1.more hb (Nat.le_refl _),h.2.keep hb (by omega)⟩) ⟨aE.refl _ _,c2,fun j hj=>absurd hj (by omega)⟩
  (fun q=>{ tmps:=#[.agg #[.int .i64 n,.int .i64 mm,.int .i64 kn,.int .i64 vn,.int .i64 LM,.slice ao xs.length cap,.int .i64 hh,.slice qo ys.length dap],.int .i64 i,.pointer (some ⟨w.heap.size,0,none⟩),.pointer (some ⟨w.heap.size+1,0,none⟩),.pointer (some ⟨w.heap.size+2,0,none⟩),.int .i64 (q:Nat),.int .i64 (gt l q:Nat),.agg #[.int .i64 n,.int .i64 mm,.int .i64 kn,.int .i64 vn,.int .i64 LM,.slice ao xs.length cap,.int .i64 hh,.slice qo ys.length dap],.func (.func 176) #[] #[.pointer (some ⟨w.heap.size+3,0,none⟩),.pointer (some ⟨w.heap.size+4,0,none⟩)],.int .i64 (q:Nat),.int .i64 (gt l q:Nat),undef,undef,undef,undef,undef,undef],defers:=[] }) ?assign ?body ?done ?stop
 case assign=>
  intro l1 q Wc K1 hK1;gi_wp2;exact hK1
 case body=>
  rintro l1 q Wc hq ⟨hk,cR,hlt⟩ hz;have cI:=(hk.cel c1 (by omega)).cell 0 rfl;have r0:=cR.cell 0 rfl;have r1:=cR.frozen 0;clear G;by_cases hge:i<=gt l q
  .have hge2:(i:Int)<=(gt l q:Int):=by omega
   obtain rfl:c=q:=hc.eq (by omega) hlt (fun _=>hge)
   have HX:Hid (aE (fun b=>b≠w.heap.size+2) Wc (Wc.setCell ⟨w.heap.size+2,0,none⟩ (.int .i64 c))/\aE (fun b=>b≠w.heap.size+2) w' (Wc.setCell ⟨w.heap.size+2,0,none⟩ (.int .i64 c))/\aa (Wc.setCell ⟨w.heap.size+2,0,none⟩ (.int .i64 c)) (w.heap.size+2) [.int .i64 c] 3):=⟨(aE.refl _ _).setCell (fun h=>h rfl) _,hk.setCell (fun h=>h rfl) _,cR.set 0 _⟩
   gi_wp2;exact HX.out
  .have hge2:¬(i:Int)<=(gt l q:Int):=by omega
   gi_wp2
   exact⟨aE.refl _ _,hk,cR,fun j hj=>by
    by_cases e:j=q
    .subst e;omega
    .exact hlt j (by omega)⟩
 case done=>
  rintro D Wc hD ⟨hk,cR,hlt⟩ hd;have r0:=cR.cell 0 rfl;have r1:=cR.frozen 0;have hB:=aU ((hk.below (B:=w.heap.size) (fun x h=>by omega) (by omega)))
  have HE:=aU (hc.eq (q:=mm) (by omega) hlt (fun h=>absurd h (by omega)));have m1:=(hk.cel c0 (by omega)).cell 1 rfl;rw[Nat.add_zero]at m1
  have hb:=aU (hB.out.setCell (p:=⟨w.heap.size+2,0,none⟩) (show w.heap.size<=w.heap.size+2 by omega) (.int .i64 mm));have cS:=aU (cR.set 0 (.int .i64 mm))
  have hd2:=aU ((Below.heap_setCell Wc ⟨w.heap.size+2,0,none⟩ (.int .i64 mm) D (show D≠w.heap.size+2 by omega)).trans hd);clear hd hk;go_wp2
  have cR2:=(cS.out.put (.deferred none) (show w.heap.size+2≠D by omega)).cell 0 rfl
  exact gk hd2.out (v:=.int .i64 mm) (by simp[results,Tryz.results129,go_sem,cR2]) ⟨by rw[HE.out],b3.trans (hb.out.trans (dZ (by omega) _))⟩
 case stop=>
  rintro D q Wc hD hq ⟨hk,cR⟩ hd;go_wp2;have cR2:=(cR.put (.deferred none) (show w.heap.size+2≠D by omega)).cell 0 rfl
  exact gk hd (v:=.int .i64 c) (by simp[results,Tryz.results129,go_sem,cR2]) ⟨rfl,b3.trans ((hk.below (fun x h=>by omega) (by omega)).trans (dZ (by omega) _))⟩
structure lK (l:List Nat) (k c:Nat):Prop where
 le:c<=l.length
 lo:∀j,j<c->gt l j-j<=k
 hi:c<l.length->k<gt l c-c
theorem lK.eq{l:List Nat}{k c q:Nat}(h:lK l k c)(hq:q<=l.length)(h1:∀j,j<q->gt l j-j<=k)(h2:q<l.length->k<gt l q-q):c=q:=by
 by_cases a:c<q
 .have:=h1 c a;have:=h.hi (by omega);omega
 .by_cases b:q<c
  .have:=h.lo q b;have:=h.le;have:=h2 (by omega);omega
  .omega
theorem EH(n mm kn vn hh:Nat)(LM:Int)(ao:Option Addr)(xs:List Nat)(cap:Nat)(qo:Option Addr)(ys:List Nat)(dap:Nat)(l:List Nat)(w:World)(F:gE n mm kn vn LM xs hh ys)(hx:Wd w ao xs)(fx:aA xs)(hy:Wd w qo ys)(fy:aA ys)(hl:l.length=mm)(hg:∀q,q<mm->plq n mm xs hh ys q=gt l q)(hr:bi l n)(k:Nat)(hk0:k<mm):
  Qq 173 #[.agg #[.int .i64 n,.int .i64 mm,.int .i64 kn,.int .i64 vn,.int .i64 LM,.slice ao xs.length cap,.int .i64 hh,.slice qo ys.length dap],.bool true,.int .i64 k] w (.int .i64 (gt l k:Nat)):=by
 have nl:=F.hn;have ml:=F.hm;refine(callsIn_wide (n:=0)).1 (callsIn_of_wp_marks func173 rfl trivial ?_)
 simp only[ntmps173,List.size_toArray,List.length_cons,List.length_nil,Nat.reduceAdd,Nat.reduceSub,Array.replicate_succ,Array.replicate_zero,List.push_toArray,List.append_toArray,List.nil_append,List.cons_append]
 refine wpIn_wide.2 ?_
 have PC:Hid (∀w0,Calls prog 134 #[.agg #[.int .i64 n,.int .i64 mm,.int .i64 kn,.int .i64 vn,.int .i64 LM,.slice ao xs.length cap,.int .i64 hh,.slice qo ys.length dap]] w0 fun e w'=>e=.returned (.func (.func 176) #[] #[.pointer (some ⟨w0.heap.size,0,none⟩),.pointer (some ⟨w0.heap.size+1,0,none⟩)])/\aa w' w0.heap.size [.int .i64 n,.int .i64 mm,.int .i64 kn,.int .i64 vn,.int .i64 LM,.slice ao xs.length cap,.int .i64 hh,.slice qo ys.length dap] 61/\aa w' (w0.heap.size+1) [.int .i64 (wdF n mm:Nat)] 3/\w'.heap.size=w0.heap.size+2/\Below w0.heap.size w0 w'):=fun w0=>k6 n mm kn vn hh LM ao xs cap qo ys dap F.hn F.hm w0
 obtain⟨W1,hW1⟩:∃W1,W1=(((w.alloc (.cells #[.int .i64 n,.int .i64 mm,.int .i64 kn,.int .i64 vn,.int .i64 LM,.slice ao xs.length cap,.int .i64 hh,.slice qo ys.length dap] 61)).alloc (.cells #[.bool true] 4)).alloc (.cells #[.int .i64 k] 3)).alloc (.cells #[.int .i64 0] 3):=⟨_,rfl⟩
 have z1:W1.heap.size=w.heap.size+4:=by rw[hW1];simp
 have b1:Below w.heap.size w W1:=by rw[hW1];exact((((below_alloc w _).alloc (by simp only[World.size_alloc];omega) _).alloc (by simp only[World.size_alloc];omega) _).alloc (by simp only[World.size_alloc];omega) _)
 have c0:aa W1 (w.heap.size+0) [.int .i64 n,.int .i64 mm,.int .i64 kn,.int .i64 vn,.int .i64 LM,.slice ao xs.length cap,.int .i64 hh,.slice qo ys.length dap] 61:=by rw[hW1];exact(((((aa.new _ _ _).alloc _).alloc _).alloc _)).at (by simp)
 have c1:aa W1 (w.heap.size+1) [.bool true] 4:=by rw[hW1];exact((((aa.new _ _ _).alloc _).alloc _)).at (by simp)
 have c2:aa W1 (w.heap.size+2) [.int .i64 k] 3:=by rw[hW1];exact(((aa.new _ _ _).alloc _)).at (by simp)
 have c3:aa W1 (w.heap.size+3) [.int .i64 0] 3:=by rw[hW1];exact((aa.new _ _ _)).at (by simp)
 go_wp2_with fail;rw[<-hW1];clear hW1;refine(PC.out _).mono ?_;rintro e w' ⟨rfl,cx,cw,z2,b2⟩;rw[z1]at cx cw z2;rw[z1];have b3:Below w.heap.size w w':=bg b1 b2;replace c0:=c0.kept b2
 replace c1:=c1.kept b2;replace c2:=c2.kept b2;replace c3:=c3.kept b2;go_wp2;clear b1 b2 PC
 have G:=(kD n mm kn vn hh LM ao xs cap qo ys dap (fun b=>b≠w.heap.size+3/\b≠w'.heap.size+1) w' (w.heap.size+4) (w.heap.size+5) F (hx.keep b3) fx (hy.keep b3) fy cx cw (by omega) (by omega) (fun p hp h0=>by have:=hx.blk hp h0;omega) (fun p hp h0=>by have:=hy.blk hp h0;omega)).enc (enc':=fun q=>#[.int .i64 q,.int .i64 (gt l q:Nat)]) (fun q hq=>by rw[hg q hq])
 refine iR (gf:=176) (lb:=#[.pointer (some ⟨w.heap.size+4,0,none⟩),.pointer (some ⟨w.heap.size+5,0,none⟩)]) (K:=fun b=>b≠w.heap.size+3) rfl (enters_of func176 (by kernel_rfl) rfl) (fun _=>rfl) G (fun b hb=>by omega)
  (fun q Wc=>aE (fun b=>b≠w.heap.size+3) w' Wc/\aa Wc (w.heap.size+3) [.int .i64 0] 3/\(q<=k)) (fun q Wc=>aE (fun b=>b≠w.heap.size+3) w' Wc/\aa Wc (w.heap.size+3) [.int .i64 (gt l k:Nat)] 3) (fun q A B h hb=>⟨h.1.more hb (Nat.le_refl _),h.2.1.keep hb (by omega),h.2.2⟩) (fun q A B h hb=>⟨h.1.more hb (Nat.le_refl _),h.2.keep hb (by omega)⟩) ⟨aE.refl _ _,c3,by omega⟩
  (fun q=>{ tmps:=#[.agg #[.int .i64 n,.int .i64 mm,.int .i64 kn,.int .i64 vn,.int .i64 LM,.slice ao xs.length cap,.int .i64 hh,.slice qo ys.length dap],.bool true,.int .i64 k,.pointer (some ⟨w.heap.size,0,none⟩),.pointer (some ⟨w.heap.size+1,0,none⟩),.pointer (some ⟨w.heap.size+2,0,none⟩),.pointer (some ⟨w.heap.size+3,0,none⟩),.int .i64 (q:Nat),.int .i64 (gt l q:Nat),.agg #[.int .i64 n,.int .i64 mm,.int .i64 kn,.int .i64 vn,.int .i64 LM,.slice ao xs.length cap,.int .i64 hh,.slice qo ys.length dap],.func (.func 176) #[] #[.pointer (some ⟨w.heap.size+4,0,none⟩),.pointer (some ⟨w.heap.size+5,0,none⟩)],.int .i64 (q:Nat),.int .i64 (gt l q:Nat),undef,undef,undef,undef,undef,undef,undef,undef,undef,undef,undef,undef,undef,undef,undef,undef,undef,undef,undef,undef,undef,undef,undef],defers:=[] }) ?assign ?body ?done ?stop
 case assign=>
  intro l1 q Wc K1 hK1;gi_wp2;exact hK1
 case body=>
  rintro l1 q Wc hq ⟨hk,cR,hlt⟩ hz;have cI:=(hk.cel c1 (by omega)).cell 0 rfl;have cJ:=(hk.cel c2 (by omega)).cell 0 rfl;have r0:=cR.cell 0 rfl;have r1:=cR.frozen 0;clear G;by_cases hge:q=k
  .have hge2:((q:Int)==(k:Int))=true:=by simp;omega
   obtain rfl:=hge
   have HX:Hid (aE (fun b=>b≠w.heap.size+3) Wc (Wc.setCell ⟨w.heap.size+3,0,none⟩ (.int .i64 (gt l q:Nat)))/\aE (fun b=>b≠w.heap.size+3) w' (Wc.setCell ⟨w.heap.size+3,0,none⟩ (.int .i64 (gt l q:Nat)))/\aa (Wc.setCell ⟨w.heap.size+3,0,none⟩ (.int .i64 (gt l q:Nat))) (w.heap.size+3) [.int .i64 (gt l q:Nat)] 3):=⟨(aE.refl _ _).setCell (fun h=>h rfl) _,hk.setCell (fun h=>h rfl) _,cR.set 0 _⟩
   gi_wp2;exact HX.out
  .have hge2:((q:Int)==(k:Int))=false:=by simp;omega
   gi_wp2;exact⟨aE.refl _ _,hk,cR,by omega⟩
 case done=>
  rintro D Wc hD ⟨hk,cR,hlt⟩ hd;exact absurd hk0 (by omega)
 case stop=>
  rintro D q Wc hD hq ⟨hk,cR⟩ hd;go_wp2;have cR2:=(cR.put (.deferred none) (show w.heap.size+3≠D by omega)).cell 0 rfl
  exact gk hd (v:=.int .i64 (gt l k:Nat)) (by simp[results,Tryz.results173,go_sem,cR2]) ⟨rfl,b3.trans ((hk.below (fun x h=>by omega) (by omega)).trans (dZ (by omega) _))⟩
theorem EI(n mm kn vn hh:Nat)(LM:Int)(ao:Option Addr)(xs:List Nat)(cap:Nat)(qo:Option Addr)(ys:List Nat)(dap:Nat)(l:List Nat)(w:World)(F:gE n mm kn vn LM xs hh ys)(hx:Wd w ao xs)(fx:aA xs)(hy:Wd w qo ys)(fy:aA ys)(hl:l.length=mm)(hg:∀q,q<mm->plq n mm xs hh ys q=gt l q)(hr:bi l n)(k:Nat)(hkn:k<=1048576)(c:Nat)(hc:lK l k c):
  Qq 173 #[.agg #[.int .i64 n,.int .i64 mm,.int .i64 kn,.int .i64 vn,.int .i64 LM,.slice ao xs.length cap,.int .i64 hh,.slice qo ys.length dap],.bool false,.int .i64 k] w (.int .i64 ((k+c:Nat):Int)):=by
 have nl:=F.hn;have ml:=F.hm;refine(callsIn_wide (n:=0)).1 (callsIn_of_wp_marks func173 rfl trivial ?_)
 simp only[ntmps173,List.size_toArray,List.length_cons,List.length_nil,Nat.reduceAdd,Nat.reduceSub,Array.replicate_succ,Array.replicate_zero,List.push_toArray,List.append_toArray,List.nil_append,List.cons_append]
 refine wpIn_wide.2 ?_
 have PC:Hid (∀w0,Calls prog 134 #[.agg #[.int .i64 n,.int .i64 mm,.int .i64 kn,.int .i64 vn,.int .i64 LM,.slice ao xs.length cap,.int .i64 hh,.slice qo ys.length dap]] w0 fun e w'=>e=.returned (.func (.func 176) #[] #[.pointer (some ⟨w0.heap.size,0,none⟩),.pointer (some ⟨w0.heap.size+1,0,none⟩)])/\aa w' w0.heap.size [.int .i64 n,.int .i64 mm,.int .i64 kn,.int .i64 vn,.int .i64 LM,.slice ao xs.length cap,.int .i64 hh,.slice qo ys.length dap] 61/\aa w' (w0.heap.size+1) [.int .i64 (wdF n mm:Nat)] 3/\w'.heap.size=w0.heap.size+2/\Below w0.heap.size w0 w'):=fun w0=>k6 n mm kn vn hh LM ao xs cap qo ys dap F.hn F.hm w0
 obtain⟨W1,hW1⟩:∃W1,W1=(((w.alloc (.cells #[.int .i64 n,.int .i64 mm,.int .i64 kn,.int .i64 vn,.int .i64 LM,.slice ao xs.length cap,.int .i64 hh,.slice qo ys.length dap] 61)).alloc (.cells #[.bool false] 4)).alloc (.cells #[.int .i64 k] 3)).alloc (.cells #[.int .i64 0] 3):=⟨_,rfl⟩
 have z1:W1.heap.size=w.heap.size+4:=by rw[hW1];simp
 have b1:Below w.heap.size w W1:=by rw[hW1];exact((((below_alloc w _).alloc (by simp only[World.size_alloc];omega) _).alloc (by simp only[World.size_alloc];omega) _).alloc (by simp only[World.size_alloc];omega) _)
 have c0:aa W1 (w.heap.size+0) [.int .i64 n,.int .i64 mm,.int .i64 kn,.int .i64 vn,.int .i64 LM,.slice ao xs.length cap,.int .i64 hh,.slice qo ys.length dap] 61:=by rw[hW1];exact(((((aa.new _ _ _).alloc _).alloc _).alloc _)).at (by simp)
 have c1:aa W1 (w.heap.size+1) [.bool false] 4:=by rw[hW1];exact((((aa.new _ _ _).alloc _).alloc _)).at (by simp)
 have c2:aa W1 (w.heap.size+2) [.int .i64 k] 3:=by rw[hW1];exact(((aa.new _ _ _).alloc _)).at (by simp)
 have c3:aa W1 (w.heap.size+3) [.int .i64 0] 3:=by rw[hW1];exact((aa.new _ _ _)).at (by simp)
 go_wp2_with fail;rw[<-hW1];clear hW1;refine(PC.out _).mono ?_;rintro e w' ⟨rfl,cx,cw,z2,b2⟩;rw[z1]at cx cw z2;rw[z1];have b3:Below w.heap.size w w':=bg b1 b2;replace c0:=c0.kept b2
 replace c1:=c1.kept b2;replace c2:=c2.kept b2;replace c3:=c3.kept b2;go_wp2;clear b1 b2 PC
 have G:=(kD n mm kn vn hh LM ao xs cap qo ys dap (fun b=>b≠w.heap.size+3/\b≠w'.heap.size+1) w' (w.heap.size+4) (w.heap.size+5) F (hx.keep b3) fx (hy.keep b3) fy cx cw (by omega) (by omega) (fun p hp h0=>by have:=hx.blk hp h0;omega) (fun p hp h0=>by have:=hy.blk hp h0;omega)).enc (enc':=fun q=>#[.int .i64 q,.int .i64 (gt l q:Nat)]) (fun q hq=>by rw[hg q hq])
 refine iR (gf:=176) (lb:=#[.pointer (some ⟨w.heap.size+4,0,none⟩),.pointer (some ⟨w.heap.size+5,0,none⟩)]) (K:=fun b=>b≠w.heap.size+3) rfl (enters_of func176 (by kernel_rfl) rfl) (fun _=>rfl) G (fun b hb=>by omega)
  (fun q Wc=>aE (fun b=>b≠w.heap.size+3) w' Wc/\aa Wc (w.heap.size+3) [.int .i64 0] 3/\(∀j,j<q->gt l j-j<=k)) (fun q Wc=>aE (fun b=>b≠w.heap.size+3) w' Wc/\aa Wc (w.heap.size+3) [.int .i64 ((k+c:Nat):Int)] 3) (fun q A B h hb=>⟨h.1.more hb (Nat.le_refl _),h.2.1.keep hb (by omega),h.2.2⟩) (fun q A B h hb=>⟨h.1.more hb (Nat.le_refl _),h.2.keep hb (by omega)⟩) ⟨aE.refl _ _,c3,fun j hj=>absurd hj (by omega)⟩
  (fun q=>{ tmps:=#[.agg #[.int .i64 n,.int .i64 mm,.int .i64 kn,.int .i64 vn,.int .i64 LM,.slice ao xs.length cap,.int .i64 hh,.slice qo ys.length dap],.bool false,.int .i64 k,.pointer (some ⟨w.heap.size,0,none⟩),.pointer (some ⟨w.heap.size+1,0,none⟩),.pointer (some ⟨w.heap.size+2,0,none⟩),.pointer (some ⟨w.heap.size+3,0,none⟩),.int .i64 (q:Nat),.int .i64 (gt l q:Nat),.agg #[.int .i64 n,.int .i64 mm,.int .i64 kn,.int .i64 vn,.int .i64 LM,.slice ao xs.length cap,.int .i64 hh,.slice qo ys.length dap],.func (.func 176) #[] #[.pointer (some ⟨w.heap.size+4,0,none⟩),.pointer (some ⟨w.heap.size+5,0,none⟩)],.int .i64 (q:Nat),.int .i64 (gt l q:Nat),undef,undef,undef,undef,undef,undef,undef,undef,undef,undef,undef,undef,undef,undef,undef,undef,undef,undef,undef,undef,undef,undef,undef],defers:=[] }) ?assign ?body ?done ?stop
 case assign=>
  intro l1 q Wc K1 hK1;gi_wp2;exact hK1
 case body=>
  rintro l1 q Wc hq ⟨hk,cR,hlt⟩ hz;have cI:=(hk.cel c1 (by omega)).cell 0 rfl;have cJ:=(hk.cel c2 (by omega)).cell 0 rfl;have r0:=cR.cell 0 rfl;have r1:=cR.frozen 0;clear G;have hst:=hr.step q 0 (by omega)
  rw[Nat.zero_add]at hst;have hln:=hr.1 q (by omega);obtain⟨d,hd⟩:∃d,Hid (d=gt l q-q):=⟨_,rfl⟩;have hd2:(gt l q:Int)-(q:Int)=(d:Int):=by rw[hd.out];omega
  have dl:d<=1048576:=by rw[hd.out];omega
  by_cases hge:k<d
  .have hge2:(k:Int)<(d:Int):=by omega
   obtain rfl:c=q:=hc.eq (by omega) hlt (fun _=>by rw[<-hd.out];exact hge)
   have HX:Hid (aE (fun b=>b≠w.heap.size+3) Wc (Wc.setCell ⟨w.heap.size+3,0,none⟩ (.int .i64 ((k+c:Nat):Int)))/\aE (fun b=>b≠w.heap.size+3) w' (Wc.setCell ⟨w.heap.size+3,0,none⟩ (.int .i64 ((k+c:Nat):Int)))/\aa (Wc.setCell ⟨w.heap.size+3,0,none⟩ (.int .i64 ((k+c:Nat):Int))) (w.heap.size+3) [.int .i64 ((k+c:Nat):Int)] 3):=⟨(aE.refl _ _).setCell (fun h=>h rfl) _,hk.setCell (fun h=>h rfl) _,cR.set 0 _⟩
   have c20:c<=1048576:=by omega
   rw[show((k+c:Nat):Int)=(k:Int)+(c:Int)by omega]at HX⊢;clear hst hln;gi_wp2;exact HX.out
  .have hge2:¬(k:Int)<(d:Int):=by omega
   have hlt2:Hid (∀j,j<q+1->gt l j-j<=k):=fun j hj=>by
    by_cases e:j=q
    .subst e;rw[<-hd.out];omega
    .exact hlt j (by omega)
   clear hst hln;gi_wp2;exact⟨aE.refl _ _,hk,cR,fun j hj=>by have:=hlt2.out j hj;omega⟩
 case done=>
  rintro D Wc hD ⟨hk,cR,hlt⟩ hd;have r0:=cR.cell 0 rfl;have r1:=cR.frozen 0;have hB:=aU ((hk.below (B:=w.heap.size) (fun x h=>by omega) (by omega)))
  have HE:=aU (hc.eq (q:=mm) (by omega) hlt (fun h=>absurd h (by omega)));have m1:=(hk.cel c0 (by omega)).cell 1 rfl;rw[Nat.add_zero]at m1;have cJ:=(hk.cel c2 (by omega)).cell 0 rfl
  have m20:mm<=1048576:=by omega
  have hb:=aU (hB.out.setCell (p:=⟨w.heap.size+3,0,none⟩) (show w.heap.size<=w.heap.size+3 by omega) (.int .i64 ((k:Int)+(mm:Int))));have cS:=aU (cR.set 0 (.int .i64 ((k:Int)+(mm:Int))))
  have hd2:=aU ((Below.heap_setCell Wc ⟨w.heap.size+3,0,none⟩ (.int .i64 ((k:Int)+(mm:Int))) D (show D≠w.heap.size+3 by omega)).trans hd);clear hd hk;go_wp2
  have cR2:=(cS.out.put (.deferred none) (show w.heap.size+3≠D by omega)).cell 0 rfl
  exact gk hd2.out (v:=.int .i64 ((k:Int)+(mm:Int))) (by simp[results,Tryz.results173,go_sem,cR2]) ⟨by rw[HE.out];congr 1,b3.trans (hb.out.trans (dZ (by omega) _))⟩
 case stop=>
  rintro D q Wc hD hq ⟨hk,cR⟩ hd;go_wp2;have cR2:=(cR.put (.deferred none) (show w.heap.size+3≠D by omega)).cell 0 rfl
  exact gk hd (v:=.int .i64 ((k+c:Nat):Int)) (by simp[results,Tryz.results173,go_sem,cR2]) ⟨rfl,b3.trans ((hk.below (fun x h=>by omega) (by omega)).trans (dZ (by omega) _))⟩
end Go.Proofs.YtleegaihbgbcjabGreatDoor
namespace Go.Proofs.YtleegaihbgbcjabGreatDoor
open Go.RowKit Num Bit
def fE(w:World)(cs:List Value)(a:bF):Prop:=∃ao cap qo dap,cs=[.int .i64 a.N,.int .i64 a.M,.int .i64 a.k,.int .i64 a.V,.int .i64 a.LM,.slice ao a.xs.length cap,.int .i64 a.H,.slice qo a.ys.length dap]/\(aD a.N/\aD a.M/\aD a.k/\aD a.V/\aD a.LM/\aD a.H)/\Wd w ao a.xs/\aA a.xs/\a.xs.length<=cap/\Wd w qo a.ys/\aA a.ys/\a.ys.length<=dap
structure bT (w:World) (cs:List Value) (a:bF):Prop where
 arg:fE w cs a
 n3:a.N<=3000
 xl:a.xs.length<=1048576
 yl:a.ys.length<=1048576
theorem fE.keep{w w':World}{cs:List Value}{a:bF}(h:fE w cs a)(hb:Below w.heap.size w w'):fE w' cs a:=by
 obtain⟨ao,cap,qo,dap,e,r,a1,a2,a3,a4,a5,a6⟩:=h;exact⟨ao,cap,qo,dap,e,r,a1.keep hb,a2,a3,a4.keep hb,a5,a6⟩
theorem bT.keep{w w':World}{cs:List Value}{a:bF}(h:bT w cs a)(hb:Below w.heap.size w w'):bT w' cs a:=⟨h.arg.keep hb,h.n3,h.xl,h.yl⟩
theorem fE.len{w:World}{cs:List Value}{a:bF}(h:fE w cs a):(prog.info? 61).map (·.size)=some cs.length:=by
 obtain⟨ao,cap,qo,dap,rfl,_⟩:=h;kernel_rfl
theorem fE.nine{w:World}{cs:List Value}{a:bF}(h:fE w cs a):8=cs.length:=by
 obtain⟨ao,cap,qo,dap,rfl,_⟩:=h;rfl
theorem fE.one{w:World}{cs:List Value}{a:bF}(h:fE w cs a):cs.toArray.all (·.oneCell')=true:=by
 obtain⟨ao,cap,qo,dap,rfl,_⟩:=h;simp[Value.oneCell']
theorem ui(a:bF)(h:kOk9 a=true):0<=a.N/\a.N<=1048576/\bi (kRow a) a.N.toNat:=by
 obtain⟨h1,_⟩:=mg a h;unfold dv at h1;simp only at h1;split at h1
 .rename_i c;obtain⟨⟨c1,c2,c3,c4⟩,c5,c6,c7,c8⟩:=c;exact⟨c1,c2,(lp _ _ _ _ _ _ h1).2⟩
 .cases h1
theorem kV(a:bF)(h:kOk9 a=true):am (kBN9 a) (kBX9 a)=true:=by
 obtain⟨h0,h1,_⟩:=ui a h;unfold kBN9 kBX9;rw[if_pos h,if_pos h];have:=fB a.N.toNat (isIn (kRow a)) (by omega);rw[Int.toNat_of_nonneg h0]at this;exact this
theorem um(a:bF):aA (kBX9 a):=by
 unfold kBX9;split
 .exact cY _ _
 .intro i;unfold gt;simp
theorem sW(xs:List Nat)(n:Nat):(plc (bitAt xs) n).length=cntB xs n:=by
 induction n with
 | zero=>rfl
 | succ n ih=>
  rw[jL,List.length_append,ih];show _=cntB xs n+(if bitAt xs n then 1 else 0);cases bitAt xs n<;>rfl
theorem oz(n:Nat)(l:List Nat)(hr:bi l n)(i:Nat):bitAt (rowOf n (isIn l)) i=isIn l i:=by
 rw[eQ];by_cases c:i<n
 .rw[decide_eq_true c,Bool.true_and]
 .rw[decide_eq_false c,Bool.false_and];symm;refine Bool.eq_false_iff.2 fun h=>?_;obtain⟨j,hj,e⟩:=(gw l i).1 h;have:=hr.1 j hj;omega
theorem oh{n:Nat}{l:List Nat}(hr:bi l n)(i:Nat):oI l i (cntB (rowOf n (isIn l)) i):=by
 induction i with
 | zero=>exact⟨Nat.zero_le _,fun j hj=>absurd hj (by show ¬j<0;omega),fun j _ _=>Nat.zero_le _⟩
 | succ i ih=>
  have e:cntB (rowOf n (isIn l)) (i+1)=cntB (rowOf n (isIn l)) i+(if isIn l i then 1 else 0):=by
   show _+(if bitAt _ i then 1 else 0)=_;rw[oz n l hr]
  generalize cntB (rowOf n (isIn l)) i=c at *;rw[e];cases hb:isIn l i with
  | false=>
   simp only[Bool.false_eq_true,if_false,Nat.add_zero];refine⟨ih.le,fun j hj=>by have:=ih.lo j hj;omega,fun j hj hl=>?_⟩;have h1:=ih.hi j hj hl;refine Nat.lt_of_le_of_ne h1 fun e2=>?_
   rw[e2,nW l j hl]at hb;cases hb
  | true=>
   obtain⟨j,hj,ej⟩:=(gw l i).1 hb
   have jc:j=c:=by
    by_cases c1:j<c
    .have:=ih.lo j c1;omega
    .by_cases c2:c<j
     .have h1:=hr.lt c2 hj;have:=ih.hi c (Nat.le_refl _) (by omega);omega
     .omega
   subst jc;simp only[if_true];refine⟨by omega,fun t ht=>?_,fun t ht hl=>?_⟩
   .by_cases e3:t=j
    .subst e3;omega
    .have:=ih.lo t (by omega);omega
   .have:=hr.lt (show j<t by omega) hl;omega
theorem FX{n:Nat}{l:List Nat}(hr:bi l n)(k:Nat)(hk:k<l.length):bitAt (rowOf n (isIn l)) (gt l k)=true/\cntB (rowOf n (isIn l)) (gt l k)=k:=by
 refine⟨by rw[oz n l hr];exact nW l k hk,?_⟩;exact(oh hr (gt l k)).eq (by omega) (fun j hj=>hr.lt hj hk) (fun _=>Nat.le_refl _)
theorem FY{n:Nat}{l:List Nat}(hr:bi l n):cntB (rowOf n (isIn l)) n=l.length:=
 (oh hr n).eq (Nat.le_refl _) (fun j hj=>hr.1 j hj) (fun h=>absurd h (by omega))
theorem FW{n:Nat}{l:List Nat}(hr:bi l n)(k:Nat)(hk:k<n-l.length):∃c,lK l k c/\k+c<n/\bitAt (rowOf n (isIn l)) (k+c)=false/\(k+c)-cntB (rowOf n (isIn l)) (k+c)=k:=by
 have hlen:=hr.len;-- the first place that has more than k noughts ahead
 have ex:∀d,d<=l.length->(∃c,lK l k c)\/(∀j,j<d->gt l j-j<=k):=by
  intro d;induction d with
  | zero=>intro _;exact .inr fun j hj=>absurd hj (by omega)
  | succ d ih=>
   intro hd;rcases ih (by omega)with h | h
   .exact .inl h
   .by_cases c:k<gt l d-d
    .exact .inl ⟨d,by omega,h,fun _=>c⟩
    .exact .inr fun j hj=>by
      by_cases e:j=d
      .subst e;omega
      .exact h j (by omega)
 have hc:∃c,lK l k c:=by
  rcases ex l.length (Nat.le_refl _)with h | h
  .exact h
  .exact⟨l.length,Nat.le_refl _,h,fun h=>absurd h (by omega)⟩
 obtain⟨c,hc⟩:=hc
 have hst:∀j,j<l.length->j<=gt l j:=fun j hj=>by
  have:=hr.step j 0 (by omega);rw[Nat.zero_add]at this;omega
 have h1:∀j,j<c->gt l j<k+c:=fun j hj=>by
  have:=hc.lo j hj;have:=hc.le;have:=hst j (by omega);omega
 have h2:c<l.length->k+c<gt l c:=fun h=>by
  have:=hc.hi h;have:=hst c h;omega
 have hn:k+c<n:=by
  by_cases e:c<l.length
  .have:=h2 e;have:=hr.1 c e;omega
  .have:=hc.le;omega
 have hcnt:cntB (rowOf n (isIn l)) (k+c)=c:=(oh hr (k+c)).eq hc.le h1 (fun h=>Nat.le_of_lt (h2 h));refine⟨c,hc,hn,?_,by omega⟩;rw[oz n l hr];refine Bool.eq_false_iff.2 fun h=>?_
 obtain⟨j,hj,e⟩:=(gw l _).1 h;by_cases a:j<c
 .have:=h1 j a;omega
 .by_cases b:j=c
  .subst b;have:=h2 hj;omega
  .have:=hr.lt (show c<j by omega) hj;have:=h2 (by omega);omega
def ra(w:World)(b:Nat)(l:List (Int×Nat)):Prop:=b<w.heap.size/\∀i,i<l.length->w.cell? ⟨b,i*2,none⟩=some (.int .i64 (l.getD i (0,0)).1)/\∃ao cap,w.cell? ⟨b,i*2+1,none⟩=some (.slice ao (l.getD i (0,0)).2 cap)
def norw(l:List (Int×Nat)):Bool:=l.all fun p=>decide (p.1=0)&&decide ((p.2:Int)=0)
theorem BJ(l:List (Int×Nat))(h:∀j,j<l.length->(l.getD j (0,0)).1=0/\(l.getD j (0,0)).2=0):norw l=true:=by
 unfold norw;rw[List.all_eq_true];intro p hp;obtain⟨j,hj,rfl⟩:=List.mem_iff_getElem.1 hp;have:=h j hj;rw[List.getD_eq_getElem?_getD,List.getElem?_eq_getElem hj]at this
 simp[show(l[j]).1=0 from this.1,show(l[j]).2=0 from this.2]
theorem tw(l:List (Int×Nat))(j:Nat)(hj:j<l.length)(h:(l.getD j (0,0)).1≠0\/(l.getD j (0,0)).2≠0):norw l=false:=by
 refine Bool.eq_false_iff.2 fun e=>?_;unfold norw at e;rw[List.all_eq_true]at e;have:=e _ (List.getElem_mem hj);rw[List.getD_eq_getElem?_getD,List.getElem?_eq_getElem hj]at h;simp at this;rcases h with h | h
 .exact h this.1
 .exact h (by have:=this.2;simp only[Option.getD_some]at *;omega)
theorem py(b cap:Nat)(l:List (Int×Nat))(w:World)(hx:ra w b l)(hl:l.length<=2):
  Qq 151 #[.slice (some ⟨b,0,none⟩) l.length cap] w (.bool (norw l)):=by
 obtain⟨R,hR⟩:∃R,Hid (R=norw l):=⟨_,rfl⟩;rw[<-hR.out];go_enter func151,ntmps151;go_wp2
 go_loopw [7] (fun i wr=>∃k:Nat,k<=l.length/\i=.int .i64 k/\Hid (∀j,j<k->(l.getD j (0,0)).1=0/\(l.getD j (0,0)).2=0)/\Below w.heap.size w wr) (fun i _=>l.length-(intOf i).toNat)
 case atStart=>exact⟨0,by omega,rfl,fun j hj=>absurd hj (by omega),Below.refl _ _⟩
 case round=>
  obtain⟨k,hk,rfl,H,hw⟩:=hrel;by_cases hlt:k<l.length
  .obtain⟨h1,ao,cp,h2⟩:=hx.2 k hlt;have e1:=(hw.cell (p:=⟨b,k*2,none⟩) hx.1).trans h1;have e2:=(hw.cell (p:=⟨b,k*2+1,none⟩) hx.1).trans h2;obtain⟨N,hN⟩:∃N,N=(l.getD k (0,0)).1:=⟨_,rfl⟩
   obtain⟨n,hn⟩:∃n,n=(l.getD k (0,0)).2:=⟨_,rfl⟩;rw[<-hN]at e1;rw[<-hn]at e2;have hlt3:(k:Int)<(l.length:Int):=by omega
   have HN:Hid (N=(l.getD k (0,0)).1/\n=(l.getD k (0,0)).2):=And.intro hN hn;clear hN hn h1 h2;have bA:=hw.alloc hw.size (.cells #[.int .i64 N,.slice ao n cp] 53);by_cases hv:N=0
   .by_cases hv2:n=0
    .subst hv hv2;go_wp2;refine⟨⟨k+1,by omega,by go_num,?_,bA⟩,by simp only[intOf];omega⟩;intro j hj;by_cases e:j=k
     .subst e;exact⟨HN.out.1.symm,HN.out.2.symm⟩
     .exact H.out j (by omega)
    .have hne:((n:Int) != 0)=true:=by simp;omega
     have E:Hid (R=false):=by
      show R=false;rw[hR.out];exact tw l k hlt (.inr (by rw[<-HN.out.2];exact hv2))
     subst hv;go_wp2;go_ret;rw[E.out];exact⟨rfl,bA⟩
   .have hne:(N != 0)=true:=by simp[hv]
    have E:Hid (R=false):=by
     show R=false;rw[hR.out];exact tw l k hlt (.inl (by rw[<-HN.out.1];exact hv))
    go_wp2;go_ret;rw[E.out];exact⟨rfl,bA⟩
  .have E:Hid (R=true):=by
    show R=true;rw[hR.out];exact BJ l (fun j hj=>H.out j (by omega))
   go_wp2;go_ret;rw[E.out];exact⟨rfl,hw⟩
structure cQ where
 N:Int
 xs:List Nat
 S:List Int
 T:List Int
def fF(w:World)(cs:List Value)(a:cQ):Prop:=∃ao cap so sc tO tc,cs=[.int .i64 a.N,.slice ao a.xs.length cap,.slice so a.S.length sc,.slice tO a.T.length tc]/\rd w a.N ao a.xs cap so a.S sc tO a.T tc
structure cH (w:World) (cs:List Value) (a:cQ):Prop where
 arg:fF w cs a
 xl:a.xs.length<=1048576
 sl:a.S.length<=1048576
 tl:a.T.length<=1048576
theorem fF.keep{w w':World}{cs:List Value}{a:cQ}(h:fF w cs a)(hb:Below w.heap.size w w'):fF w' cs a:=by
 obtain⟨ao,cap,so,sc,tO,tc,e,h⟩:=h;exact⟨ao,cap,so,sc,tO,tc,e,⟨h.n,h.x.keep hb,h.f,h.c,h.s.keep hb,h.sf,h.sc,h.t.keep hb,h.tf,h.tc⟩⟩
theorem cH.keep{w w':World}{cs:List Value}{a:cQ}(h:cH w cs a)(hb:Below w.heap.size w w'):cH w' cs a:=⟨h.arg.keep hb,h.xl,h.sl,h.tl⟩
theorem fF.len{w:World}{cs:List Value}{a:cQ}(h:fF w cs a):(prog.info? 55).map (·.size)=some cs.length:=by
 obtain⟨ao,cap,so,sc,tO,tc,rfl,_⟩:=h;kernel_rfl
theorem fF.four{w:World}{cs:List Value}{a:cQ}(h:fF w cs a):cs.length=4:=by
 obtain⟨ao,cap,so,sc,tO,tc,rfl,_⟩:=h;rfl
theorem fF.one{w:World}{cs:List Value}{a:cQ}(h:fF w cs a):cs.toArray.all (·.oneCell')=true:=by
 obtain⟨ao,cap,so,sc,tO,tc,rfl,_⟩:=h;simp[Value.oneCell']
def kOk7(a:cQ):Bool:=pchk a.N a.xs a.S a.T
def kBN7(a:cQ):Int:=gJ a.N a.xs a.S a.T
def kBX7(a:cQ):List Nat:=fw a.N a.xs a.S a.T
def kZ7(a:cQ):Int:=kC a.N a.xs a.S a.T
def kB7(N:Int)(xs:List Nat):cQ:=⟨gK N xs,ei N xs,eH N xs,es N xs⟩
def kE7(N:Int)(xs:List Nat):Int:=jM N xs
theorem D9(N:Int)(xs:List Nat)(hk:am N xs=true):kOk7 (kB7 N xs)=true/\kBN7 (kB7 N xs)=N/\kBX7 (kB7 N xs)=xs:=by
 have e:kB7 N xs=⟨N,xs,supL N xs,subL N xs⟩:=by unfold kB7 gK ei eH es;rw[if_pos hk,if_pos hk,if_pos hk,if_pos hk]
 have k:pchk N xs (supL N xs) (subL N xs)=true:=by unfold pchk;simp[hk]
 rw[e];unfold kOk7 kBN7 kBX7 gJ fw;simp only;rw[if_pos k,if_pos k];exact⟨k,rfl,rfl⟩
theorem Ea(a:cQ)(h:kOk7 a=true):am (kBN7 a) (kBX7 a)=true:=by
 unfold kBN7 kBX7 gJ fw;unfold kOk7 at h;rw[if_pos h,if_pos h];unfold pchk at h;simp only[Bool.and_eq_true]at h;exact h.1
structure RA where
 K:Int
 p:cQ
 r:aT
 f:bF
def fG(w:World)(cs:List Value)(a:RA):Prop:=∃cp cr cf,cs=.int .i64 a.K::(cp++(cr++cf))/\aD a.K/\fF w cp a.p/\fg w cr a.r/\fE w cf a.f
structure Sm (a:RA):Prop where
 p1:a.p.xs.length<=1048576
 p2:a.p.S.length<=1048576
 p3:a.p.T.length<=1048576
 r1:a.r.xs.length<=1048576
 r2:a.r.ys.length<=1048576
 r3:a.r.S.length<=1048576
 r4:a.r.T.length<=1048576
 f0:a.f.N<=3000
 f1:a.f.xs.length<=1048576
 f2:a.f.ys.length<=1048576
structure KI (w:World) (cs:List Value) (a:RA):Prop where
 arg:fG w cs a
 sm:Sm a
 gv:GV w
theorem fG.keep{w w':World}{cs:List Value}{a:RA}(h:fG w cs a)(hb:Below w.heap.size w w'):fG w' cs a:=by
 obtain⟨cp,cr,cf,e,k,h1,h2,h3⟩:=h;exact⟨cp,cr,cf,e,k,h1.keep hb,h2.keep hb,h3.keep hb⟩
theorem KI.keep{w w':World}{cs:List Value}{a:RA}(h:KI w cs a)(hb:Below w.heap.size w w'):KI w' cs a:=⟨h.arg.keep hb,h.sm,h.gv.keep hb⟩
theorem fG.nine{w:World}{cs:List Value}{a:RA}(h:fG w cs a):22=cs.length:=by
 obtain⟨cp,cr,cf,rfl,_,h1,h2,h3⟩:=h;have:=h1.four;have:=h2.nine;have:=h3.nine;simp only[List.length_cons,List.length_append];omega
theorem mq:(prog.info? 63).map (·.size)=some 22:=by kernel_rfl
theorem fG.len{w:World}{cs:List Value}{a:RA}(h:fG w cs a):(prog.info? 63).map (·.size)=some cs.length:=by
 rw[<-h.nine];exact mq
theorem fG.one{w:World}{cs:List Value}{a:RA}(h:fG w cs a):cs.toArray.all (·.oneCell')=true:=by
 obtain⟨cp,cr,cf,rfl,_,h1,h2,h3⟩:=h;have a1:=h1.one;have a2:=h2.one;have a3:=h3.one;simp only[List.all_toArray]at a1 a2 a3⊢;rw[List.all_cons,List.all_append,List.all_append,a1,a2,a3];rfl
def z7(a:cQ):Bool:=norw [(a.N,a.xs.length)]&&(decide ((a.S.length:Int)=0)&&decide ((a.T.length:Int)=0))
def z8(a:aT):Bool:=decide (a.N=0)&&(decide (a.k=0)&&(decide (a.V=0)&&(norw [(a.M,a.xs.length),(a.L,a.ys.length)]&&(decide ((a.S.length:Int)=0)&&decide ((a.T.length:Int)=0)))))
def z9(a:bF):Bool:=decide (a.N=0)&&(decide (a.M=0)&&(decide (a.k=0)&&(decide (a.V=0)&&norw [(a.LM,a.xs.length),(a.H,a.ys.length)])))
def cF(a:RA):Bool:=(decide (a.K=1)||z7 a.p)&&((decide (a.K=2)||z8 a.r)&&(decide (a.K=3)||z9 a.f))
def kOn(a:RA):Int:=if cF a=true then a.K else 0
def aQ(a:RA):Bool:=if kOn a=1 then kOk7 a.p else if kOn a=2 then kOk8 a.r else if kOn a=3 then kOk9 a.f else false
def kBN(a:RA):Int:=if kOn a=1 then kBN7 a.p else if kOn a=2 then kBN8 a.r else if kOn a=3 then kBN9 a.f else 0
def aR(a:RA):List Nat:=if kOn a=1 then kBX7 a.p else if kOn a=2 then kBX8 a.r else if kOn a=3 then kBX9 a.f else []
def kZ(a:RA):Int:=if kOn a=1 then kZ7 a.p else if kOn a=2 then kZ8 a.r else if kOn a=3 then kZ9 a.f else 0
def n7:cQ:=⟨0,[],[],[]⟩
def n8:aT:=⟨0,0,0,0,[],0,[],[],[]⟩
def n9:bF:=⟨0,0,0,0,0,[],0,[]⟩
def kE(k:Int)(N:Int)(xs:List Nat):Int:=if k=1 then kE7 N xs else if k=2 then kE8 N xs else if k=3 then kE9 N xs else 5
def kB(k:Int)(N:Int)(xs:List Nat):RA:=if kE k N xs=0 then ⟨k,if k=1 then kB7 N xs else n7,if k=2 then kB8 N xs else n8,if k=3 then kB9 N xs else n9⟩else ⟨0,n7,n8,n9⟩
theorem im{a:RA}(h:kOn a=1):aQ a=kOk7 a.p/\kBN a=kBN7 a.p/\aR a=kBX7 a.p/\kZ a=kZ7 a.p:=by
 unfold aQ kBN aR kZ;rw[if_pos h,if_pos h,if_pos h,if_pos h];exact⟨rfl,rfl,rfl,rfl⟩
theorem il{a:RA}(h:kOn a=2):aQ a=kOk8 a.r/\kBN a=kBN8 a.r/\aR a=kBX8 a.r/\kZ a=kZ8 a.r:=by
 unfold aQ kBN aR kZ;have e:¬kOn a=1:=by omega
 rw[if_neg e,if_neg e,if_neg e,if_neg e,if_pos h,if_pos h,if_pos h,if_pos h];exact⟨rfl,rfl,rfl,rfl⟩
theorem fA{a:RA}(h:kOn a=3):aQ a=kOk9 a.f/\kBN a=kBN9 a.f/\aR a=kBX9 a.f/\kZ a=kZ9 a.f:=by
 unfold aQ kBN aR kZ;have e:¬kOn a=1:=by omega
 have e2:¬kOn a=2:=by omega
 rw[if_neg e,if_neg e,if_neg e,if_neg e,if_neg e2,if_neg e2,if_neg e2,if_neg e2,if_pos h,if_pos h,if_pos h,if_pos h];exact⟨rfl,rfl,rfl,rfl⟩
theorem gc{a:RA}(h1:kOn a≠1)(h2:kOn a≠2)(h3:kOn a≠3):aQ a=false/\kBN a=0/\aR a=[]/\kZ a=0:=by
 unfold aQ kBN aR kZ;rw[if_neg h1,if_neg h1,if_neg h1,if_neg h1,if_neg h2,if_neg h2,if_neg h2,if_neg h2,if_neg h3,if_neg h3,if_neg h3,if_neg h3];exact⟨rfl,rfl,rfl,rfl⟩
theorem jY(a:RA)(h:aQ a=true):am (kBN a) (aR a)=true:=by
 by_cases h1:kOn a=1
 .obtain⟨e1,e2,e3,_⟩:=im h1;rw[e2,e3];exact Ea _ (e1.symm.trans h)
 by_cases h2:kOn a=2
 .obtain⟨e1,e2,e3,_⟩:=il h2;rw[e2,e3];exact nT _ (e1.symm.trans h)
 by_cases h3:kOn a=3
 .obtain⟨e1,e2,e3,_⟩:=fA h3;rw[e2,e3];exact kV _ (e1.symm.trans h)
 rw[(gc h1 h2 h3).1]at h;cases h
theorem mh(k N:Int)(xs:List Nat)(h1:1<=k)(h3:k<=3)(hk:am N xs=true):kE k N xs=0:=by
 unfold kE kE7 kE8 kE9 jM kt;simp only[hk];split
 .rfl
 .split
  .rfl
  .split
   .rfl
   .omega
open Go.ChangeShapes Go.WideShapes Go.ChangeAt Go.RowKit Go.Joins Go.Deep Num Bit Bn
theorem yz(m:Nat)(xs:List Nat)(hf:aA xs)(hk:am (m:Int) xs=true):rowOf m (bitAt xs)=xs:=by
 have:=j2 m xs hf hk;rw[Int.toNat_natCast]at this;exact this.symm
theorem ul(N:Int)(xs:List Nat)(hf:aA xs)(hk:am N xs=true):kOk8 (kB8 N xs)=true/\kBN8 (kB8 N xs)=N/\kBX8 (kB8 N xs)=xs:=by
 obtain⟨h0,h1,_,_⟩:=bj N xs hk;obtain⟨m,rfl⟩:=Int.eq_ofNat_of_zero_le h0;have hm:m<=1048576:=by omega
 have e:kB8 (m:Int) xs=⟨m,nb m,4,(nb m:Int)*4,rC m (bitAt xs),bat m (bitAt xs) (nb m),rO m (bitAt xs),rS m (bitAt xs),rT m (bitAt xs)⟩:=by
  unfold kB8 fm fu fk fp dL fq dK dJ dI;rw[hk,Int.toNat_natCast];rfl
 have hd:rDec m (nb m) 4 (rC m (bitAt xs)) (bat m (bitAt xs) (nb m)) (rO m (bitAt xs))=some ((List.range m).map (bitAt xs)):=zF m (bitAt xs) hm
 have e1:rwN (some ((List.range m).map (bitAt xs)))=m:=by simp[rwN]
 have e2:rwX (some ((List.range m).map (bitAt xs)))=xs:=by
  show aB _=xs;rw[Fa,yz m xs hf hk]
 have hn:=iD m hm;have hb:=jE m (bitAt xs) (nb m)
 have i1:aP (nb m:Int) 4 ((nb m:Int)*4) (rC m (bitAt xs))=true:=by
  have:=uA (cC m (bitAt xs) (nb m)) 4 (by decide) (by decide) (by rw[dW];omega);rw[dW]at this;unfold rC;rw[show((nb m:Int)*4)=((nb m*4:Nat):Int)by omega];exact this
 have i2:am (bat m (bitAt xs) (nb m):Int) (rO m (bitAt xs))=true:=by
  unfold rO;rw[lj];exact fB _ _ (by omega)
 have ok:cM m (nb m) 4 ((nb m:Int)*4) (rC m (bitAt xs)) (bat m (bitAt xs) (nb m)) (rO m (bitAt xs)) (rS m (bitAt xs)) (rT m (bitAt xs))=true:=by
  unfold cM;rw[hd,e1,e2,i1,i2,decide_eq_true (show(0:Int)<=m/\(m:Int)<=1048576 by omega),zE];rfl
 rw[e];refine⟨ok,?_,?_⟩
 .unfold kBN8 fJ;rw[if_pos ok,hd,e1]
 .unfold kBX8 dO;rw[if_pos ok,hd,e2]
theorem D0(N:Int)(xs:List Nat)(hk:am N xs=true):kE8 N xs=0:=by unfold kE8 kt;rw[hk];rfl
end Go.Proofs.YtleegaihbgbcjabGreatDoor
namespace Go.Proofs.YtleegaihbgbcjabGreatDoor
open Go.RowKit Go.Shelf Num Bit
attribute [local go_sem] Oper.semAt_some
theorem Eh(l:List Nat)(q:Nat)(h:q<l.length)(j:Nat):isIn (l.take (q+1)) j=(isIn (l.take q) j||gt l q==j):=by
 rw[mV l q h,nU]
theorem bh.kept{K:Nat->Prop}{g:Nat}{w w':World}(h:bh g w w')(hg:¬K g):aE K w w':=⟨h.os,h.tape,h.output,Nat.le_of_eq h.size.symm,fun b hb _=>h.block b (fun e=>hg (e ▸ hb))⟩
theorem i9:(prog.info? 53).map (·.size)=some 2:=by kernel_rfl
theorem E5(a0 a1 a2 a3 a4 a5 a6 a7:Value)(w:World)(CC:Hid (Qz w 103 #[.agg #[a0,a1,a2,a3,a4,a5,a6,a7]] (.bool false))):
  Qq 81 #[.agg #[a0,a1,a2,a3,a4,a5,a6,a7]] w (.agg #[.int .i64 0,.slice none 0 0]):=by
 .skip;refine(callsIn_wide (n:=0)).1 (callsIn_of_wp_marks func81 rfl trivial ?_)
  simp only[ntmps81,List.size_toArray,List.length_cons,List.length_nil,Nat.reduceAdd,Nat.reduceSub,Array.replicate_succ,Array.replicate_zero,List.push_toArray,List.append_toArray,List.nil_append,List.cons_append]
  refine wpIn_wide.2 ?_;obtain⟨W1,hW1⟩:∃W1,W1=(w.alloc (.cells #[a0,a1,a2,a3,a4,a5,a6,a7] 61)).alloc (.cells #[.int .i64 0,.slice none 0 0] 53):=⟨_,rfl⟩
  have b1:Below w.heap.size w W1:=by rw[hW1];exact((below_alloc w _).alloc (by simp only[World.size_alloc];omega) _)
  have z1:W1.heap.size=w.heap.size+2:=by rw[hW1];simp
  have c1:aa W1 (w.heap.size+1) [.int .i64 0,.slice none 0 0] 53:=by rw[hW1];exact aa.new2 w _ _ _
  go_wp2_with fail;rw[<-hW1];clear hW1;refine mr (CC.out _ b1) fun wf hb=>?_;replace b1:=bg b1 hb;replace c1:=c1.kept hb;clear hb CC z1
  go_wp2_with (refine aJ (w.heap.size+1) [.int .i64 0,.slice none 0 0] [.int .i64 0,.slice none 0 0] rfl rfl c1 rfl i9 (by simp[Value.oneCell']) ?_);intro w3 B3 O3
  have HZ:Hid (aa w3 (w.heap.size+1) [.int .i64 0,.slice none 0 0] 53/\Below w.heap.size w w3):=⟨B3,b1.trans (O3.below (Nat.le_succ _))⟩;clear B3 O3 b1 c1;go_wp2
  exact⟨_,iQ rfl (w.heap.size+1) _ rfl HZ.out.1 underlying53 i9,rfl,HZ.out.2⟩
theorem EZ(n mm kn vn hh:Nat)(LM:Int)(ao:Option Addr)(xs:List Nat)(cap:Nat)(qo:Option Addr)(ys:List Nat)(dap:Nat)(l:List Nat)(w:World)(F:gE n mm kn vn LM xs hh ys)(hx:Wd w ao xs)(fx:aA xs)(hy:Wd w qo ys)(fy:aA ys)(hl:l.length=mm)(hg:∀q,q<mm->plq n mm xs hh ys q=gt l q)(hr:bi l n)(CC:Hid (Qz w 103 #[.agg #[.int .i64 n,.int .i64 mm,.int .i64 kn,.int .i64 vn,.int .i64 LM,.slice ao xs.length cap,.int .i64 hh,.slice qo ys.length dap]] (.bool true))):
  Calls prog 81 #[.agg #[.int .i64 n,.int .i64 mm,.int .i64 kn,.int .i64 vn,.int .i64 LM,.slice ao xs.length cap,.int .i64 hh,.slice qo ys.length dap]] w fun e w'=>∃bo bc,e=.returned (.agg #[.int .i64 n,.slice bo (rowOf n (isIn l)).length bc])/\Wd w' bo (rowOf n (isIn l))/\(rowOf n (isIn l)).length<=bc/\Below w.heap.size w w':=by
 have nl:=F.hn;obtain⟨k,hk0⟩:∃k,Hid (k=(n+63)/64):=⟨_,rfl⟩;have HL:Hid (∀f:Nat->Bool,(rowOf n f).length=k):=fun f=>by rw[cP,hk0.out]
 have NC:Hid (∀w0,Calls prog 95 #[.int .i64 n] w0 fun e w'=>∃g,e=.returned (.tuple #[.agg #[.int .i64 n,.slice (some ⟨g,0,none⟩) k k],.int .i64 0])/\w0.heap.size<=g/\g<w'.heap.size/\Own w' g (rowOf n (fun _=>false))/\Below w0.heap.size w0 w'):=fun w0=>by
  have:=lY (n:Int) k w0 (by omega) (by omega) (by rw[hk0.out];omega);rw[kr n k hk0.out]at this;exact this
 have SC:Hid (∀w0 g f p,Own w0 g (rowOf n f)->p<n->Calls prog 135 #[.slice (some ⟨g,0,none⟩) k k,.int .i64 (p:Nat)] w0 fun e w'=>(∃v,e=.returned v)/\Own w' g (rowOf n (fun j=>f j||p==j))/\bh g w0 w'):=fun w0 g f p hO hp=>by
  have:=uK n f g k p w0 hO hp nl;rw[HL.out f]at this;exact this
 refine(callsIn_wide (n:=0)).1 (callsIn_of_wp_marks func81 rfl trivial ?_)
 simp only[ntmps81,List.size_toArray,List.length_cons,List.length_nil,Nat.reduceAdd,Nat.reduceSub,Array.replicate_succ,Array.replicate_zero,List.push_toArray,List.append_toArray,List.nil_append,List.cons_append]
 refine wpIn_wide.2 ?_
 have PC:Hid (∀w0,Calls prog 134 #[.agg #[.int .i64 n,.int .i64 mm,.int .i64 kn,.int .i64 vn,.int .i64 LM,.slice ao xs.length cap,.int .i64 hh,.slice qo ys.length dap]] w0 fun e w'=>e=.returned (.func (.func 176) #[] #[.pointer (some ⟨w0.heap.size,0,none⟩),.pointer (some ⟨w0.heap.size+1,0,none⟩)])/\aa w' w0.heap.size [.int .i64 n,.int .i64 mm,.int .i64 kn,.int .i64 vn,.int .i64 LM,.slice ao xs.length cap,.int .i64 hh,.slice qo ys.length dap] 61/\aa w' (w0.heap.size+1) [.int .i64 (wdF n mm:Nat)] 3/\w'.heap.size=w0.heap.size+2/\Below w0.heap.size w0 w'):=fun w0=>k6 n mm kn vn hh LM ao xs cap qo ys dap F.hn F.hm w0
 obtain⟨W1,hW1⟩:∃W1,W1=(w.alloc (.cells #[.int .i64 n,.int .i64 mm,.int .i64 kn,.int .i64 vn,.int .i64 LM,.slice ao xs.length cap,.int .i64 hh,.slice qo ys.length dap] 61)).alloc (.cells #[.int .i64 0,.slice none 0 0] 53):=⟨_,rfl⟩
 have b1:Below w.heap.size w W1:=by rw[hW1];exact((below_alloc w _).alloc (by simp only[World.size_alloc];omega) _)
 have z1:W1.heap.size=w.heap.size+2:=by rw[hW1];simp
 have c0:aa W1 w.heap.size [.int .i64 n,.int .i64 mm,.int .i64 kn,.int .i64 vn,.int .i64 LM,.slice ao xs.length cap,.int .i64 hh,.slice qo ys.length dap] 61:=by rw[hW1];exact(aa.new w _ _).alloc _
 have c1:aa W1 (w.heap.size+1) [.int .i64 0,.slice none 0 0] 53:=by rw[hW1];exact aa.new2 w _ _ _
 go_wp2_with fail;rw[<-hW1];clear hW1;refine mr (CC.out _ b1) fun wf hb=>?_;replace b1:=bg b1 hb;replace c0:=c0.kept hb;replace c1:=c1.kept hb
 have zf:w.heap.size+2<=wf.heap.size:=by have:=hb.size;omega
 clear hb CC z1;have q0:=c0.cell 0 rfl;go_wp2_with fail;refine(NC.out _).mono ?_;rintro e w2 ⟨g,rfl,hg1,hg2,hO,hb⟩;replace b1:=bg b1 hb;replace c0:=c0.kept hb;replace c1:=c1.kept hb;clear hb q0 NC
 obtain⟨g2,hgg⟩:∃g,g=w2.heap.size:=⟨_,rfl⟩;obtain⟨W2,hW2⟩:∃W2,W2=w2.alloc (.cells #[.int .i64 n,.slice (some ⟨g,0,none⟩) k k] 53):=⟨_,rfl⟩
 have bA:Below w2.heap.size w2 W2:=by rw[hW2];exact below_alloc w2 _
 have z2:W2.heap.size=g2+1:=by rw[hW2,hgg];simp
 have c2:aa W2 g2 [.int .i64 n,.slice (some ⟨g,0,none⟩) k k] 53:=by rw[hW2,hgg];exact aa.new w2 _ _
 have d0:aa (w2.alloc (.cells #[.int .i64 n,.slice (some ⟨g,0,none⟩) k k] 53)) w.heap.size [.int .i64 n,.int .i64 mm,.int .i64 kn,.int .i64 vn,.int .i64 LM,.slice ao xs.length cap,.int .i64 hh,.slice qo ys.length dap] 61:=c0.alloc _
 have q0:=d0.cell 0 rfl;have q1:=d0.cell 1 rfl;have q2:=d0.cell 2 rfl;have q3:=d0.cell 3 rfl;have q4:=d0.cell 4 rfl;have q5:=d0.cell 5 rfl;have q6:=d0.cell 6 rfl;have q7:=d0.cell 7 rfl;have HG:=aU hgg
 rw[<-hgg]at hg2;clear hgg;have HW2:=aU hW2;clear hW2;have HZF:=aU zf;have HG1:=aU hg1;clear zf hg1;go_wp2_with fail;rw[<-HW2.out];refine(PC.out _).mono ?_;rintro e w' ⟨rfl,cx,cw,z3,b3⟩
 rw[z2]at cx cw z3 b3;rw[z2,<-HG.out];have zf:=HZF.out;have hg1:=HG1.out;have zg:wf.heap.size<=g2:=by omega
 have b4:Below w.heap.size w w':=(bg b1 bA).trans (b3.mono (by omega));have bC:Below w2.heap.size w2 w':=bA.trans (b3.mono (by rw[<-HG.out];omega));replace c0:=c0.kept bC;replace c1:=c1.kept bC
 replace c2:=c2.keep b3 (by omega);replace hO:=hO.keep bC;clear b1 bA b3 bC PC HW2 d0 HG HZF HG1 q0 q1 q2 q3 q4 q5 q6 q7;go_wp2
 have G:=(kD n mm kn vn hh LM ao xs cap qo ys dap (fun b=>b≠g/\b≠w'.heap.size+1) w' (g2+1) (g2+1+1) F (hx.keep b4) fx (hy.keep b4) fy cx cw (by omega) (by omega) (fun p hp h0=>by have:=hx.blk hp h0;omega) (fun p hp h0=>by have:=hy.blk hp h0;omega)).enc (enc':=fun q=>#[.int .i64 q,.int .i64 (gt l q:Nat)]) (fun q hq=>by rw[hg q hq])
 have I0:Own w' g (rowOf n (isIn (l.take 0))):=by
  rw[di n (isIn (l.take 0)) (fun _=>false) fun i _=>by simp[isIn]];exact hO
 clear hO
 refine iR (gf:=176) (lb:=#[.pointer (some ⟨g2+1,0,none⟩),.pointer (some ⟨g2+2,0,none⟩)]) (K:=fun b=>b≠g) rfl (enters_of func176 (by kernel_rfl) rfl) (fun _=>rfl) G (fun b hb=>by omega)
  (fun q Wc=>aE (fun b=>b≠g) w' Wc/\Own Wc g (rowOf n (isIn (l.take q)))) (fun q Wc=>False) (fun q A B h hb=>⟨h.1.more hb (Nat.le_refl _),(hb.block g (by omega)).trans h.2⟩) (fun q A B h hb=>h) ⟨aE.refl _ _,I0⟩
  (fun q=>{ tmps:=#[.agg #[.int .i64 n,.int .i64 mm,.int .i64 kn,.int .i64 vn,.int .i64 LM,.slice ao xs.length cap,.int .i64 hh,.slice qo ys.length dap],.pointer (some ⟨w.heap.size,0,none⟩),.pointer (some ⟨w.heap.size+1,0,none⟩),.pointer (some ⟨g2,0,none⟩),.int .i64 0,undef,.int .i64 (gt l q:Nat),.agg #[.int .i64 n,.int .i64 mm,.int .i64 kn,.int .i64 vn,.int .i64 LM,.slice ao xs.length cap,.int .i64 hh,.slice qo ys.length dap],.bool true,.bool false,undef,.tuple #[.agg #[.int .i64 n,.slice (some ⟨g,0,none⟩) k k],.int .i64 0],.pointer (some ⟨w.heap.size,0,none⟩),.int .i64 n,.tuple #[.agg #[.int .i64 n,.slice (some ⟨g,0,none⟩) k k],.int .i64 0],.agg #[.int .i64 n,.slice (some ⟨g,0,none⟩) k k],.int .i64 0,.agg #[.int .i64 n,.int .i64 mm,.int .i64 kn,.int .i64 vn,.int .i64 LM,.slice ao xs.length cap,.int .i64 hh,.slice qo ys.length dap],.func (.func 176) #[] #[.pointer (some ⟨g2+1,0,none⟩),.pointer (some ⟨g2+2,0,none⟩)],.int .i64 (q:Nat),.int .i64 (gt l q:Nat),undef,undef,undef,undef,undef],defers:=[] }) ?assign ?body ?done ?stop
 case assign=>
  intro l1 q Wc K1 hK1;gi_wp2;exact hK1
 case body=>
  rintro l1 q Wc hq ⟨hk,hO⟩ hz;have m1:=(hk.cel c2 (by omega)).cell 1 rfl;have hlt:=hr.1 q (by omega);have S1:=aU (SC.out Wc g _ (gt l q) hO hlt)
  have RW:Hid (rowOf n (fun j=>isIn (l.take q) j||gt l q==j)=rowOf n (isIn (l.take (q+1)))):=di _ _ _ fun j _=>(Eh l q (by omega) j).symm;clear G hO;gi_wp2_with fail;refine⟨trivial,rfl,?_⟩
  refine(CallsIn.inRound l1 (callsIn_wide.2 S1.out)).mono ?_;rintro e W3 ⟨⟨v,rfl⟩,hO3,hT⟩;rw[RW.out]at hO3;have kT:aE (fun b=>b≠g) Wc W3:=hT.kept (fun h=>h rfl)
  have HE:=aU (And.intro kT (And.intro (hk.trans kT) hO3));clear kT hT hO3 m1;gi_wp2;exact HE.out
 case done=>
  rintro D Wc hD ⟨hk,hO⟩ hd;rw[<-hl,List.take_of_length_le (Nat.le_refl _)]at hO;have cR:=hk.cel c1 (by omega);have cB:=hk.cel c2 (by omega)
  have hb:=b4.trans (hk.below (B:=w.heap.size) (fun x h=>by omega) (by omega));have DN:D≠g/\D≠w.heap.size+1/\w.heap.size<=D:=⟨by omega,by omega,by omega⟩
  have gN:g≠w.heap.size+1/\w.heap.size<=g:=⟨by omega,by omega⟩;clear hk c0 c1 c2 cx cw
  go_wp2_with (first | refine fe g2 _ rfl cB underlying53 i9 ?_ | refine aJ (w.heap.size+1) [.int .i64 0,.slice none 0 0] _ rfl rfl cR rfl i9 (by simp[Value.oneCell']) ?_);intro w3 B3 O3
  have b5:=hb.trans (O3.below (Nat.le_succ _));have hO3:Own w3 g (rowOf n (isIn l)):=(O3.block g gN.1).trans hO;have hd3:w3.heap[D]?=some (.deferred (some [])):=(O3.block D DN.2.1).trans hd
  have HZ:=aU (And.intro B3 (And.intro hO3 (And.intro hd3 b5)));clear B3 O3 hO3 hd3 b5 hd hO cB cR;go_wp2;obtain⟨B3,hO3,hd3,b5⟩:=HZ.out
  have cR2:=B3.put (.deferred none) (show w.heap.size+1≠D from fun e=>DN.2.1 e.symm);have hO4:Own (w3.putObj D (.deferred none)) g (rowOf n (isIn l)):=(World.putObj_heap_other (fun e=>DN.1 e.symm)).trans hO3
  refine gk hd3 (iQ rfl (w.heap.size+1) _ rfl cR2 underlying53 i9) ⟨some ⟨g,0,none⟩,k,?_,hO4.wd,?_,b5.trans (dZ DN.2.2 _)⟩
  .rw[HL.out]
  .exact Nat.le_of_eq (HL.out _)
 case stop=>
  rintro D q Wc hD hq h hd;exact h.elim
end Go.Proofs.YtleegaihbgbcjabGreatDoor
