import Derived.Test.YtleegaihbgbcjabGreatDoorT03
set_option linter.unusedVariables false
set_option linter.unusedSimpArgs false
set_option maxRecDepth 100000
set_option maxHeartbeats 16000000
open Go.Proofs.Tryz
namespace Go.Proofs.YtleegaihbgbcjabGreatDoor
open Num
namespace Bn
def ch:Nat->Nat->Nat
 | _,0=>1
 | 0,_+1=>0
 | n+1,k+1=>ch n k+ch n (k+1)
theorem jA(n:Nat):ch n 0=1:=by cases n<;>rfl
theorem i9(n k:Nat):ch (n+1) (k+1)=ch n k+ch n (k+1):=rfl
theorem nj:∀n k,n<k->ch n k=0:=by
 intro n;induction n with
 | zero=>intro k h;match k,h with | k+1,_=>rfl
 | succ n ih=>intro k h;match k,h with | k+1,h=>rw[i9,ih k (by omega),ih (k+1) (by omega)]
theorem IJ:∀n k,k<=n->0<ch n k:=by
  intro n;induction n with
  | zero => intro k h; obtain rfl : k = 0 := by omega
            exact Nat.one_pos
  | succ n ih=>
    intro k h;match k,h with
    | 0,_=>rw[jA];exact Nat.one_pos
    | k+1,h=>rw[i9];have:=ih k (by omega);omega
theorem xp:∀n k,ch n k<=2^n:=by
 intro n;induction n with
 | zero=>intro k;match k with | 0=>exact Nat.le_refl _ | k+1=>exact Nat.zero_le _
 | succ n ih=>
  intro k;match k with
  | 0=>rw[jA];exact Nat.one_le_two_pow
  | k+1=>rw[i9,Nat.pow_succ];have:=ih k;have:=ih (k+1);omega
theorem IK(n k:Nat):ch n k<=ch (n+1) k:=by
 match k with
 | 0=>rw[jA,jA];exact Nat.le_refl _
 | k+1=>rw[i9];omega
def off(x:Nat):Nat->Nat
 | 0=>0
 | n+1=>off x n+if x/2^n%2=1 then ch n (cnt x (n+1))else 0
theorem ou(x:Nat):∀n,off x n<ch n (cnt x n):=by
 intro n;induction n with
 | zero=>exact Nat.one_pos
 | succ n ih=>
  rw[off];by_cases hb:x/2^n%2=1
  .rw[if_pos hb];have e:cnt x (n+1)=cnt x n+1:=by rw[cnt,hb]
   rw[e,i9];omega
  .rw[if_neg hb];have e:cnt x (n+1)=cnt x n:=by rw[cnt];omega
   rw[e];have:=IK n (cnt x n);omega
theorem DI(x m:Nat):∀n,n<=m->off (x%2^m) n=off x n:=by
 intro n;induction n with
 | zero=>intro _;rfl
 | succ n ih=>
  intro h;rw[off,off,ih (by omega),xI x m n (by omega),pm x m (n+1) h]
def blk:Nat->Nat->Nat->Nat
 | 0,_,_=>0
 | i+1,k,o=>if k=0 then 0 else if ch i k<=o then 2^i+blk i (k-1) (o-ch i k)else blk i k o
theorem kO(n o:Nat):blk n 0 o=0:=by
 cases n with
 | zero=>rfl
 | succ n=>rw[blk,if_pos rfl]
theorem nB(i k o:Nat)(hk:k≠0)(h:ch i k<=o):blk (i+1) k o=2^i+blk i (k-1) (o-ch i k):=by rw[blk,if_neg hk,if_pos h]
theorem nA(i k o:Nat)(hk:k≠0)(h:¬ch i k<=o):blk (i+1) k o=blk i k o:=by rw[blk,if_neg hk,if_neg h]
theorem jY:∀n k o,blk n k o<2^n:=by
 intro n;induction n with
 | zero=>intro k o;exact Nat.one_pos
 | succ n ih=>
  intro k o;have p:2^(n+1)=2^n+2^n:=by rw[Nat.pow_succ];omega
  by_cases hk:k=0
  .subst hk;rw[kO];exact Nat.two_pow_pos _
  .by_cases h:ch n k<=o
   .rw[nB n k o hk h];have:=ih (k-1) (o-ch n k);omega
   .rw[nA n k o hk h];have:=ih k o;omega
theorem uV(x n:Nat):x%2^(n+1)=x%2^n+2^n*(x/2^n%2):=by rw[Nat.mod_pow_succ]
theorem rW(x:Nat):∀n,blk n (cnt x n) (off x n)=x%2^n:=by
 intro n;induction n with
 | zero=>simp[blk,Nat.mod_one]
 | succ n ih=>
  rw[uV];by_cases hb:x/2^n%2=1
  .have e:cnt x (n+1)=cnt x n+1:=by rw[cnt,hb]
   have eo:off x (n+1)=off x n+ch n (cnt x n+1):=by rw[off,if_pos hb,e]
   rw[e,eo,nB _ _ _ (by omega) (by omega),hb,Nat.add_sub_cancel,Nat.add_sub_cancel,ih];omega
  .have e:cnt x (n+1)=cnt x n:=by rw[cnt];omega
   have eo:off x (n+1)=off x n:=by rw[off,if_neg hb,Nat.add_zero]
   have h0:x/2^n%2=0:=by omega
   rw[e,eo,h0,Nat.mul_zero];show _=x%2^n;by_cases hk:cnt x n=0
   .rw[<-ih,hk,kO,kO]
   .have:=ou x n;rw[nA _ _ _ hk (by omega),ih]
theorem gW(n k:Nat)(h:n<=62):ch n k<=4611686018427387904:=by
 have:=xp n k;have:2^n<=2^62:=Nat.pow_le_pow_right (by decide) h;omega
def chN(n k:Int):Nat:=if n<0\/62<n\/k<0\/n<k then 0 else ch n.toNat k.toNat
def wdN(n k:Int):Nat:=if chN n k=0 then 0 else Go.bitLen (chN n k-1)
def gI(x:Nat)(n:Int):Nat:=if n<0\/62<n then 0 else cnt x n.toNat
def gH(x:Nat)(n:Int):Nat:=if n<0\/62<n then 0 else off x n.toNat
def bkX(n k:Int)(o:Nat):Nat:=if chN n k<=o then 0 else blk n.toNat k.toNat o
def bkB(n k:Int)(o:Nat):Bool:=decide (o<chN n k)
theorem np(n k:Nat)(h:n<=62):chN n k=ch n k:=by
 unfold chN;by_cases c:n<k
 .rw[if_pos (by omega),nj n k c]
 .rw[if_neg (by omega),Int.toNat_natCast,Int.toNat_natCast]
theorem xq(n k:Int):chN n k<=4611686018427387904:=by
 unfold chN;split
 .omega
 .exact gW _ _ (by omega)
theorem yy(n k:Int):wdN n k<=62:=by
 unfold wdN;split
 .omega
 .have:=xq n k;exact iM _ 62 (by omega)
theorem E7(x:Nat)(h:x<18446744073709551616):x<2^Go.bitLen x:=by
 by_cases h0:x=0
 .subst h0;exact Nat.two_pow_pos _
 .obtain⟨p,hp,h1,_,hd,_⟩:=qK (x:Int) (by omega) (by omega) (by omega);unfold bI at hp;rw[Int.toNat_natCast]at hp;have hp2:Go.bitLen x=p:=by omega
  rw[hp2]
  have e:x/2^(p-1)=1:=by
   rw[pT _ _ (by omega),Int.toNat_natCast]at hd;omega
  have e2:2^p=2^(p-1)*2:=by
   obtain⟨m,rfl⟩:∃m,p=m+1:=⟨p-1,by omega⟩;rw[Nat.add_sub_cancel,Nat.pow_succ]
  have q:=Nat.two_pow_pos (p-1);have:=Nat.lt_mul_div_succ x q;rw[e]at this;omega
end Bn
open Num Bn
namespace Bit
def nb(N:Nat):Nat:=(N+14)/15
def blv(N:Nat)(f:Nat->Bool)(i:Nat):Nat:=numOf 15 fun k=>decide (15*i+k<N)&&f (15*i+k)
def bcl(N:Nat)(f:Nat->Bool)(i:Nat):Nat:=cnt (blv N f i) 15
def bof(N:Nat)(f:Nat->Bool)(i:Nat):Nat:=off (blv N f i) 15
def kwd(k:Nat):Nat:=Go.bitLen (ch 15 k-1)
def d_(N:Nat)(f:Nat->Bool)(i:Nat):Nat:=kwd (bcl N f i)
def bat(N:Nat)(f:Nat->Bool):Nat->Nat
 | 0=>0
 | i+1=>bat N f i+d_ N f i
def bon(N:Nat)(f:Nat->Bool):Nat->Nat
 | 0=>0
 | i+1=>bon N f i+bcl N f i
def bits(x n:Nat):List Bool:=(List.range n).map x.testBit
def di(N:Nat)(f:Nat->Bool):Nat->List Bool
 | 0=>[]
 | i+1=>di N f i++bits (bof N f i) (d_ N f i)
def cC(N:Nat)(f:Nat->Bool)(i:Nat):List Nat:=(List.range i).map (bcl N f)
theorem oL(x n:Nat):(bits x n).length=n:=by simp[bits]
theorem jp(N:Nat)(f:Nat->Bool)(i:Nat):(di N f i).length=bat N f i:=by
 induction i with
 | zero=>rfl
 | succ i ih=>rw[di,List.length_append,ih,oL,bat]
theorem eJ(N:Nat)(f:Nat->Bool)(i:Nat):(cC N f i).length=i:=by simp[cC]
theorem jd(N:Nat)(f:Nat->Bool)(i:Nat):bcl N f i<=15:=dL _ _
theorem FG(k:Nat):kwd k<=15:=iM _ 15 (by
 have:=xp 15 k;have p:(2:Nat)^15=32768:=by decide
 omega)
theorem rN(N:Nat)(f:Nat->Bool)(i:Nat):d_ N f i<=15:=FG _
theorem kG(k:Nat)(h:k<=15):kwd k<=13:=by
 match k,h with
 | 0,_ | 1,_ | 2,_ | 3,_ | 4,_ | 5,_ | 6,_ | 7,_ | 8,_ | 9,_ | 10,_ | 11,_ | 12,_ | 13,_ | 14,_ | 15,_=>decide +kernel
theorem j4(N:Nat)(f:Nat->Bool)(i:Nat):bat N f i<=13*i:=by
 induction i with
 | zero=>exact Nat.le_refl _
 | succ i ih=>have:=kG (bcl N f i) (jd N f i);rw[bat,d_];omega
theorem rQ(N:Nat)(f:Nat->Bool)(i:Nat):bon N f i<=15*i:=by
 induction i with
 | zero=>exact Nat.le_refl _
 | succ i ih=>have:=jd N f i;rw[bon];omega
theorem rR(N:Nat)(f:Nat->Bool)(i:Nat):bof N f i<ch 15 (bcl N f i):=ou _ _
theorem nu(N:Nat)(f:Nat->Bool)(i:Nat):bof N f i<2^d_ N f i:=by
 have h:=rR N f i;have c:=gW 15 (bcl N f i) (by decide);have:=E7 (ch 15 (bcl N f i)-1) (by omega);unfold d_ kwd;omega
theorem uD(x n:Nat)(h:x<2^n):numOf n x.testBit=x:=by
 refine(iY n x _ fun k=>?_).symm;by_cases c:k<n
 .simp[c]
 .have:x<2^k:=Nat.lt_of_lt_of_le h (Nat.pow_le_pow_right (by decide) (by omega));rw[Nat.testBit_lt_two_pow this];simp[c]
theorem rU(N:Nat)(f:Nat->Bool):∀n i t,i<n->t<d_ N f i->(di N f n)[bat N f i+t]?=some ((bof N f i).testBit t):=by
 intro n;induction n with
 | zero=>intro i t h;omega
 | succ n ih=>
  intro i t hi ht;rw[di];by_cases c:i<n
  .have:=ih i t c ht;have hl:=(List.getElem?_eq_some_iff.1 this).1;rw[List.getElem?_append_left hl,this]
  .obtain rfl:i=n:=by omega
   rw[List.getElem?_append_right (by rw[jp];omega),jp,Nat.add_sub_cancel_left];unfold bits;rw[List.getElem?_map,List.getElem?_range ht];rfl
def eW(N:Nat)(out:List Bool)(b:Nat):List Bool:=out++bits b (min 15 (N-out.length))
def gA(N:Nat)(M:Int)(ys:List Nat):List Nat->Nat->List Bool->Option (List Bool)
 | [],_,out=>some out
 | k::l,at_,out=>
  if slcE M ys at_ (wdN 15 k)=0/\bkB 15 k (slcX M ys at_ (wdN 15 k))=true then gA N M ys l (at_+wdN 15 k) (eW N out (bkX 15 k (slcX M ys at_ (wdN 15 k))))else none
theorem nH(k:Nat)(h:k<=15):wdN 15 k=kwd k:=by
 unfold wdN kwd;have e:chN (15:Int) (k:Int)=ch 15 k:=np 15 k (by decide);have:=IJ 15 k h;rw[e,if_neg (by omega)]
theorem jX(N:Nat)(f:Nat->Bool)(i:Nat):blv N f i<2^15:=fg _ _
theorem Js(N:Nat)(f:Nat->Bool)(i:Nat):bkB 15 (bcl N f i) (bof N f i)=true/\bkX 15 (bcl N f i) (bof N f i)=blv N f i:=by
 have e:chN (15:Int) (bcl N f i:Int)=ch 15 (bcl N f i):=np 15 _ (by decide);have h:=rR N f i;unfold bkB bkX;rw[e,if_neg (by omega)];refine⟨by simpa using h,?_⟩;have:=rW (blv N f i) 15
 rw[show((15:Int).toNat)=15 from rfl,Int.toNat_natCast];unfold bcl bof;rw[this,Nat.mod_eq_of_lt (jX N f i)]
theorem J9(N:Nat)(f:Nat->Bool)(i:Nat):eW N ((List.range (min (15*i) N)).map f) (blv N f i)=(List.range (min (15*(i+1)) N)).map f:=by
 unfold eW;have e:min (15*(i+1)) N=min (15*i) N+min 15 (N-min (15*i) N):=by omega
 rw[e,List.range_add,List.map_append,List.length_map,List.length_range];congr 1;unfold bits;rw[List.map_map];refine List.map_congr_left fun t ht=>?_;have ht:=List.mem_range.1 ht;simp only[Function.comp];unfold blv
 rw[ie];have a1:t<15:=by omega
 have a2:min (15*i) N=15*i:=by omega
 have a3:15*i+t<N:=by omega
 rw[a2];simp[a1,a3]
def xR(N:Nat)(f:Nat->Bool)(M:Int)(ys:List Nat):Prop:=∀i,i<nb N->slcE M ys (bat N f i) (wdN 15 (bcl N f i))=0/\slcX M ys (bat N f i) (wdN 15 (bcl N f i))=bof N f i
theorem Ik(N:Nat)(f:Nat->Bool)(M:Int)(ys:List Nat)(h:xR N f M ys):∀d i,i+d=nb N->gA N M ys ((List.range' i d).map (bcl N f)) (bat N f i) ((List.range (min (15*i) N)).map f)=some ((List.range N).map f):=by
 intro d;induction d with
 | zero=>
  intro i hi;have:min (15*i) N=N:=by unfold nb at hi;omega
  rw[this];rfl
 | succ d ih=>
  intro i hi;obtain⟨h1,h2⟩:=h i (by omega);obtain⟨b1,b2⟩:=Js N f i;rw[List.range'_succ,List.map_cons,gA,h2,if_pos ⟨h1,b1⟩,b2,J9]
  have e:bat N f i+wdN 15 (bcl N f i)=bat N f (i+1):=by rw[nH _ (jd N f i)];rfl
  rw[e];exact ih (i+1) (by omega)
theorem tP(N:Nat)(f:Nat->Bool)(hN:N<=1048576):xR N f (bat N f (nb N)) (rowOf (bat N f (nb N)) fun j=>(di N f (nb N)).getD j false):=by
 intro i hi;have hb:=j4 N f (nb N);have hb2:bat N f (nb N)<=1048576:=by unfold nb at hb⊢;omega
 have hw:=rN N f i
 have mono:∀d j,bat N f j<=bat N f (j+d):=by
  intro d;induction d with
  | zero=>intro j;exact Nat.le_refl _
  | succ d ih=>intro j;have:=ih j;rw[show j+(d+1)=j+d+1 by omega,bat];omega
 have hm:bat N f (i+1)<=bat N f (nb N):=by
  have:=mono (nb N-(i+1)) (i+1);rw[show i+1+(nb N-(i+1))=nb N by omega]at this;exact this
 rw[bat]at hm;have ck:=gB (bat N f (nb N)) (fun j=>(di N f (nb N)).getD j false) hb2;rw[nH _ (jd N f i),show kwd (bcl N f i)=d_ N f i from rfl]
 have e0:slcE (bat N f (nb N)) (rowOf (bat N f (nb N)) fun j=>(di N f (nb N)).getD j false) (bat N f i) (d_ N f i)=0:=by
  unfold slcE;rw[if_neg (by rw[ck];simp;omega),if_neg (by omega)]
 refine⟨e0,?_⟩;unfold slcX;rw[if_pos e0,Int.toNat_natCast,Int.toNat_natCast,<-uD (bof N f i) (d_ N f i) (nu N f i)];rw[uD (bof N f i) (d_ N f i) (nu N f i)];refine(iY _ _ _ fun k=>?_).symm
 by_cases c:k<d_ N f i
 .rw[fk,List.getD_eq_getElem?_getD,rU N f (nb N) i k hi c];simp[c,show bat N f i+k<bat N f (nb N)by omega]
 .have:bof N f i<2^k:=Nat.lt_of_lt_of_le (nu N f i) (Nat.pow_le_pow_right (by decide) (by omega));rw[Nat.testBit_lt_two_pow this];simp[c]
end Bit
end Go.Proofs.YtleegaihbgbcjabGreatDoor
namespace Go.Proofs.YtleegaihbgbcjabGreatDoor
open Go.RowKit Num Bit
theorem DM(f:Nat->Bool)(q:Nat):∀d,(∀k,q<=k->f k=false)->numOf (q+d) f=numOf q f:=by
 intro d;induction d with
 | zero=>intro _;rfl
 | succ d ih=>
  intro h;rw[show q+(d+1)=q+d+1 by omega,numOf,ih h,h (q+d) (by omega)];simp
def ja(N:Nat)(xs:List Nat)(at_:Nat)(k:Nat):Bool:=decide (at_+k<N)&&bitAt xs (at_+k)
theorem Dn(f:Nat->Bool)(q:Nat):numOf q f|||2^q=numOf q f+2^q:=by
 have:=Nat.two_pow_add_eq_or_of_lt (fg q f) 1;rw[Nat.mul_one]at this;rw[Nat.or_comm,<-this,Nat.add_comm]
theorem BG(m:Nat)(ao:Option Addr)(xs:List Nat)(cap:Nat)(p:Nat)(w:World)(hx:Wd w ao xs)(hk:az (m:Int) xs=true)(hp:p<=m):
  Qq 107 #[.agg #[.int .i64 m,.slice ao xs.length cap],.int .i64 p] w (.int .u64 (numOf 15 (ja m xs p))):=by
 obtain⟨h0,h1,h2, -⟩:=bp (m:Int) xs hk;have HL:Hid (∀j,j<m->j/64<xs.length):=fun j hj=>by omega
 clear h2;have m20:m<=1048576:=by omega
 go_enter func107,ntmps107;go_wp2
 go_loopw [5,6] (fun xv i wr=>∃q X:Nat,q<=15/\i=.int .i64 q/\xv=.int .u64 X/\Hid (X=numOf q (ja m xs p))/\aa wr w.heap.size [.int .i64 m,.slice ao xs.length cap] 53/\Below w.heap.size w wr) (fun _ i _=>15-(intOf i).toNat)
 case atStart=>exact⟨0,0,by omega,rfl,rfl,rfl,aa.new w _ _,below_alloc w _⟩
 case round=>
  obtain⟨q,X,hq,rfl,rfl,HX,hC,hwr⟩:=hrel;have r0:=hC.cell 0 rfl;have r1:=hC.cell 1 rfl
  have bX:X<32768:=by
   rw[HX.out];have h:=fg q (ja m xs p);have:2^q<=2^15:=Nat.pow_le_pow_right (by decide) hq;omega
  by_cases hlt:q<15
  .by_cases hin:p+q<m
   .have hin2:(p:Int)+(q:Int)<(m:Int):=by omega
    have q64:(q:Int)<64:=by omega
    have C2:Hid (Qz w 65 #[.agg #[.int .i64 m,.slice ao xs.length cap],.int .i64 ((p:Int)+(q:Int))] (.bool (bitAt xs (p+q)))):=fun w0 h=>nC m ao xs cap (p+q) w0 (hx.keep h) (HL.out _ hin) (by omega)
    go_wp2_with fail;refine mr (C2.out _ hwr) fun w2 hb2=>?_;have hw2:=bg hwr hb2;have hC2:=hC.kept hb2;clear hb2 r0 r1 C2;cases hbit:bitAt xs (p+q)with
    | true=>
     have HR:Hid (bits .or .u64 (X:Int) (IntKind.u64.wrap (2^q))=((X+2^q:Nat):Int)/\X+2^q=numOf (q+1) (ja m xs p)):=by
      show _/\_;refine⟨?_,?_⟩
      .rw[Bit.shl_one q (by omega),u64_or_nat _ _ (by omega) (fu q (by omega)),HX.out,Dn]
      .rw[numOf,<-HX.out];unfold ja;simp[hin,hbit]
     go_wp2;exact⟨⟨q+1,X+2^q,by omega,by go_num,congrArg (Value.int .u64) HR.out.1,HR.out.2,hC2,hw2⟩,by simp only[intOf];omega⟩
    | false=>
     have HR:Hid (X=numOf (q+1) (ja m xs p)):=by
      show X=_;rw[numOf,<-HX.out];unfold ja;simp[hbit]
     go_wp2;exact⟨⟨q+1,X,by omega,by go_num,rfl,HR,hC2,hw2⟩,by simp only[intOf];omega⟩
   .have hin2:¬(p:Int)+(q:Int)<(m:Int):=by omega
    have HR:Hid (numOf 15 (ja m xs p)=X):=by
     show numOf 15 (ja m xs p)=X;rw[HX.out,show(15:Nat)=q+(15-q)by omega,DM _ q _ (fun k hk=>by unfold ja;rw[decide_eq_false (by omega)];rfl)]
    go_wp2;go_ret;rw[HR.out];exact⟨rfl,hwr⟩
  .obtain rfl:q=15:=by omega
   go_wp2;go_ret;rw[<-HX.out];exact⟨rfl,hwr⟩
theorem Tryz.info4:(prog.info? 4).map (fun i=>(i.zero,i.size,i.bytes))=some (some (.bool false),1,1):=by kernel_rfl
def bP(l:List Bool):List Value:=l.map fun b=>Value.bool b
theorem I4(x q:Nat):bP (Bit.bits x q)++[.bool (x.testBit q)]=bP (Bit.bits x (q+1)):=by
 unfold bP Bit.bits;rw[List.range_succ,List.map_append,List.map_append];rfl
theorem s_(x q:Nat):(((x:Int)/2^q).tmod 2==1)=x.testBit q:=by
 rw[kP,iJ];have:((x/2^q:Nat):Int).tmod 2=((x/2^q%2:Nat):Int):=by generalize x/2^q=z;rw[Int.tmod_eq_emod_of_nonneg (by omega)];omega
 rw[this,Bool.eq_iff_iff,beq_iff_eq,decide_eq_true_eq];omega
theorem E_(x n:Nat)(hx64:x<18446744073709551616)(hn:n<=64)(w:World):
    Calls prog 108 #[.int .u64 x,.int .i64 n] w fun e w'=>∃v,e=.returned v/\w'.ownsRow w.heap.size 4 1 v n (bP (Bit.bits x n))/\Below w.heap.size w w':=by
  obtain⟨i0,hi,hz0,hz1,hz2⟩:=info_parts Tryz.info4;have x0:(0:Int)<=(x:Int):=by omega
  go_enter func108,ntmps108;go_wp2;go_loopw [5,6] (fun v i wr=>∃q:Nat,q<=n/\i=.int .i64 q/\wr.ownsRow w.heap.size 4 1 v q (bP (Bit.bits x q))/\Below w.heap.size w wr) (fun _ i _=>n-(intOf i).toNat)
  case atStart=>exact⟨0,Nat.zero_le _,rfl,World.ownsRow_nil _ _ _ _,Below.refl _ _⟩
  case round=>
    obtain⟨q,hq,rfl,hown,hwr⟩:=hrel;by_cases hlt:q<n
    . have hlt2:(q:Int)<(n:Int):=by omega
      have q64:(q:Int)<64:=by omega
      have T:Hid ((((x:Int)/2^q).tmod 2==1)=x.testBit q):=s_ x q;have hsz:=hwr.size
      go_wp2_with (at_builtin;rw[T.out];refine wpList_append_own _ rfl _ _ 73 rfl w.heap.size 4 i0 (.bool false) 1 1 underlying73 hi hz0 hz1 hz2 rfl (by decide) _ _ _ rfl (hown.alloc _) ⟨wr.heap.size,0,none⟩ 1 1 [.bool (x.testBit q)] rfl rfl ?c1 ?c2 ?c3 ?c4 ?c5 ?_)
      case c1=>
        intro j u hj;match j,hj with
        | 0,hj=>simp at hj;subst hj;simp[Addr.add]
      case c2=>intro u hu;simp at hu;subst hu;rfl
      case c3=>unfold maxLen;omega
      case c4=>omega
      case c5=>simp;omega
      intro v' w3 hown3 hgrow _;have hrow:∀k,u5.ownBlock=some k->w.heap.size<=k:=fun k hk=>(hown.lt k hk).1
      have hb3:Below w.heap.size (wr.alloc (.cells #[.bool (x.testBit q)] 4)) w3:=(Below.refl _ _).grown hgrow (by simp;omega) hrow
      have hb4:Below w.heap.size wr w3:=Below.trans ((Below.refl _ _).alloc (by omega) _) hb3;have hw3:=hwr.trans hb4;rw[I4]at hown3
      have HO:Hid (w3.ownsRow w.heap.size 4 1 v' (q+1) (bP (Bit.bits x (q+1)))):=hown3;clear hgrow hown hb3 hb4 hown3 hrow hi hz0 hz1 hz2;go_wp2
      first
        | exact⟨⟨q+1,by omega,by go_num,HO.out,hw3⟩,by simp only[intOf];omega⟩
        | (go_roundw
           case rel=>exact⟨q+1,by omega,by go_num,HO.out,hw3⟩
           case measure=>simp only[intOf];omega)
    . have hqm:q=n:=by omega
      have HO:Hid (wr.ownsRow w.heap.size 4 1 u5 n (bP (Bit.bits x n))):=by
        rw[hqm]at hown;exact hown
      clear hqm hown;go_wp2;go_ret;exact⟨u5,rfl,HO.out,hwr⟩
theorem Gb(aN aW aM:Int)(ao:Option Addr)(ax:List Nat)(ac:Nat)(bN bW bM:Int)(bo:Option Addr)(bx:List Nat)(bc:Nat)(w:World)(hx:Wd w ao ax)(hy:Wd w bo bx)(hl:ax.length<=1048576):
  Qq 166 #[.agg #[.int .i64 aN,.int .i64 aW,.int .i64 aM,.slice ao ax.length ac],.agg #[.int .i64 bN,.int .i64 bW,.int .i64 bM,.slice bo bx.length bc]] w (.bool (decide (aN=bN)&&(decide (aW=bW)&&(decide (aM=bM)&&decide (ax=bx))))):=by
 obtain⟨W,hW⟩:∃W,W=(w.alloc (.cells #[.int .i64 aN,.int .i64 aW,.int .i64 aM,.slice ao ax.length ac] 57)).alloc (.cells #[.int .i64 bN,.int .i64 bW,.int .i64 bM,.slice bo bx.length bc] 57):=⟨_,rfl⟩
 have bZ:Below w.heap.size w W:=by rw[hW];exact(below_alloc w _).alloc (by simp) _
 have B1:=dj hW;have B2:=cQ hW
 have C1:Hid (∀w0,w0=W->Qq 165 #[.agg #[.int .i64 aM,.slice ao ax.length ac],.agg #[.int .i64 bM,.slice bo bx.length bc]] w0 (.bool (decide (aM=bM)&&decide (ax=bx)))):=fun w0 h=>by subst h;exact mC aM ao ax ac bM bo bx bc w0 (hx.keep bZ) (hy.keep bZ) hl
 generalize (decide (aM=bM)&&decide (ax=bx))=z at *;by_cases h1:aN=bN
 .by_cases h2:aW=bW
  .rw[decide_eq_true h1,decide_eq_true h2];subst h1 h2;go_enter func166,ntmps166;go_wp2_with fail;rw[<-hW];refine mr (C1.out _ rfl) fun w1 hb=>?_;have bw:=bg bZ hb;go_wp2;go_ret
   exact⟨by cases z<;>rfl,bw⟩
  .rw[decide_eq_true h1,decide_eq_false h2];have e2:(aW==bW)=false:=by simpa using h2
   subst h1
   have bw:Below w.heap.size w ((w.alloc (.cells #[.int .i64 aN,.int .i64 aW,.int .i64 aM,.slice ao ax.length ac] 57)).alloc (.cells #[.int .i64 aN,.int .i64 bW,.int .i64 bM,.slice bo bx.length bc] 57)):=(below_alloc w _).alloc (by simp) _
   clear C1 B1 B2 bZ hW W;go_enter func166,ntmps166;go_wp2;go_ret;exact⟨rfl,bw⟩
 .rw[decide_eq_false h1];have e1:(aN==bN)=false:=by simpa using h1
  have bw:Below w.heap.size w ((w.alloc (.cells #[.int .i64 aN,.int .i64 aW,.int .i64 aM,.slice ao ax.length ac] 57)).alloc (.cells #[.int .i64 bN,.int .i64 bW,.int .i64 bM,.slice bo bx.length bc] 57)):=(below_alloc w _).alloc (by simp) _
  clear C1 B1 B2 bZ hW W;go_enter func166,ntmps166;go_wp2;go_ret;exact⟨rfl,bw⟩
theorem tX(aN ak aW aM:Int)(ao:Option Addr)(ax:List Nat)(ac:Nat)(aL:Int)(aq:Option Addr)(ay:List Nat)(ad:Nat)(as_:Option Addr)(au:List Int)(ae:Nat)(at_:Option Addr)(av:List Int)(af:Nat)(bN bk bW bM:Int)(bo:Option Addr)(bx:List Nat)(bc:Nat)(bL:Int)(bq:Option Addr)(b_y:List Nat)(bd:Nat)(bs:Option Addr)(bu:List Int)(be:Nat)(bt:Option Addr)(bv_:List Int)(bf:Nat)(w:World)(hx:Wd w ao ax)(hy:Wd w bo bx)(hl:ax.length<=1048576)(kx:Wd w aq ay)(ky:Wd w bq b_y)(kl:ay.length<=1048576)(s1:Nd w as_ au)(s2:Nd w bs bu)(sl:au.length<=1048576)(t1:Nd w at_ av)(t2:Nd w bt bv_)(tl:av.length<=1048576):
  Qq 115 #[.agg #[.int .i64 aN,.int .i64 ak,.int .i64 aW,.int .i64 aM,.slice ao ax.length ac,.int .i64 aL,.slice aq ay.length ad,.slice as_ au.length ae,.slice at_ av.length af],.agg #[.int .i64 bN,.int .i64 bk,.int .i64 bW,.int .i64 bM,.slice bo bx.length bc,.int .i64 bL,.slice bq b_y.length bd,.slice bs bu.length be,.slice bt bv_.length bf]] w (.bool (decide (aN=bN)&&((decide (ak=bk)&&(decide (aW=bW)&&(decide (aM=bM)&&decide (ax=bx))))&&((decide (aL=bL)&&decide (ay=b_y))&&(decide (au=bu)&&decide (av=bv_)))))):=by
 obtain⟨W,hW⟩:∃W,W=(w.alloc (.cells #[.int .i64 aN,.int .i64 ak,.int .i64 aW,.int .i64 aM,.slice ao ax.length ac,.int .i64 aL,.slice aq ay.length ad,.slice as_ au.length ae,.slice at_ av.length af] 59)).alloc (.cells #[.int .i64 bN,.int .i64 bk,.int .i64 bW,.int .i64 bM,.slice bo bx.length bc,.int .i64 bL,.slice bq b_y.length bd,.slice bs bu.length be,.slice bt bv_.length bf] 59):=⟨_,rfl⟩
 have bZ:Below w.heap.size w W:=by rw[hW];exact(below_alloc w _).alloc (by simp) _
 have B1:=dj hW;have B2:=cQ hW
 have C1:Hid (∀w0,w0=W->Qq 166 #[.agg #[.int .i64 ak,.int .i64 aW,.int .i64 aM,.slice ao ax.length ac],.agg #[.int .i64 bk,.int .i64 bW,.int .i64 bM,.slice bo bx.length bc]] w0 (.bool (decide (ak=bk)&&(decide (aW=bW)&&(decide (aM=bM)&&decide (ax=bx)))))):=fun w0 h=>by subst h;exact Gb ak aW aM ao ax ac bk bW bM bo bx bc w0 (hx.keep bZ) (hy.keep bZ) hl
 have C2:Hid (Qz w 165 #[.agg #[.int .i64 aL,.slice aq ay.length ad],.agg #[.int .i64 bL,.slice bq b_y.length bd]] (.bool (decide (aL=bL)&&decide (ay=b_y)))):=fun w0 h=>mC aL aq ay ad bL bq b_y bd w0 (kx.keep h) (ky.keep h) kl
 have C3:Hid (Qz w 38 #[.slice as_ au.length ae,.slice bs bu.length be] (.bool (decide (au=bu)))):=fun w0 h=>mD as_ au ae bs bu be w0 (s1.keep h) (s2.keep h) sl
 have C4:Hid (Qz w 38 #[.slice at_ av.length af,.slice bt bv_.length bf] (.bool (decide (av=bv_)))):=fun w0 h=>mD at_ av af bt bv_ bf w0 (t1.keep h) (t2.keep h) tl
 generalize (decide (ak=bk)&&(decide (aW=bW)&&(decide (aM=bM)&&decide (ax=bx))))=z1 at *;generalize (decide (aL=bL)&&decide (ay=b_y))=z2 at *;generalize decide (au=bu)=z3 at *
 generalize decide (av=bv_)=z4 at *;by_cases h1:aN=bN
 .rw[decide_eq_true h1];subst h1;go_enter func115,ntmps115;go_wp2_with fail;rw[<-hW];refine mr (C1.out _ rfl) fun w1 hb=>?_;have bw1:=bg bZ hb;replace B1:=B1.kept hb
  replace B2:=B2.kept hb;clear hb;cases z1 with
  | false=>
   go_wp2;go_ret;exact⟨rfl,bw1⟩
  | true=>
   have c0:=B1.cell 0 rfl;have d0:=B2.cell 0 rfl;have c1:=B1.cell 1 rfl;have d1:=B2.cell 1 rfl;have c2:=B1.cell 2 rfl;have d2:=B2.cell 2 rfl;have c3:=B1.cell 3 rfl;have d3:=B2.cell 3 rfl;have c4:=B1.cell 4 rfl
   have d4:=B2.cell 4 rfl;have c5:=B1.cell 5 rfl;have d5:=B2.cell 5 rfl;have c6:=B1.cell 6 rfl;have d6:=B2.cell 6 rfl;have c7:=B1.cell 7 rfl;have d7:=B2.cell 7 rfl;have c8:=B1.cell 8 rfl;have d8:=B2.cell 8 rfl
   go_wp2_with fail;refine mr (C2.out _ bw1) fun w2 hb=>?_;have bw2:=bg bw1 hb;replace B1:=B1.kept hb;replace B2:=B2.kept hb;clear hb c0 d0 c1 d1 c2 d2 c3 d3 c4 d4 c5 d5 c6 d6 c7 d7 c8 d8
   cases z2 with
   | false=>
    go_wp2;go_ret;exact⟨rfl,bw2⟩
   | true=>
    have c0:=B1.cell 0 rfl;have d0:=B2.cell 0 rfl;have c1:=B1.cell 1 rfl;have d1:=B2.cell 1 rfl;have c2:=B1.cell 2 rfl;have d2:=B2.cell 2 rfl;have c3:=B1.cell 3 rfl;have d3:=B2.cell 3 rfl
    have c4:=B1.cell 4 rfl;have d4:=B2.cell 4 rfl;have c5:=B1.cell 5 rfl;have d5:=B2.cell 5 rfl;have c6:=B1.cell 6 rfl;have d6:=B2.cell 6 rfl;have c7:=B1.cell 7 rfl;have d7:=B2.cell 7 rfl
    have c8:=B1.cell 8 rfl;have d8:=B2.cell 8 rfl;go_wp2_with fail;refine mr (C3.out _ bw2) fun w3 hb=>?_;have bw3:=bg bw2 hb;replace B1:=B1.kept hb;replace B2:=B2.kept hb
    clear hb c0 d0 c1 d1 c2 d2 c3 d3 c4 d4 c5 d5 c6 d6 c7 d7 c8 d8;cases z3 with
    | false=>
     go_wp2;go_ret;exact⟨rfl,bw3⟩
    | true=>
     have c0:=B1.cell 0 rfl;have d0:=B2.cell 0 rfl;have c1:=B1.cell 1 rfl;have d1:=B2.cell 1 rfl;have c2:=B1.cell 2 rfl;have d2:=B2.cell 2 rfl;have c3:=B1.cell 3 rfl;have d3:=B2.cell 3 rfl
     have c4:=B1.cell 4 rfl;have d4:=B2.cell 4 rfl;have c5:=B1.cell 5 rfl;have d5:=B2.cell 5 rfl;have c6:=B1.cell 6 rfl;have d6:=B2.cell 6 rfl;have c7:=B1.cell 7 rfl;have d7:=B2.cell 7 rfl
     have c8:=B1.cell 8 rfl;have d8:=B2.cell 8 rfl;go_wp2_with fail;refine mr (C4.out _ bw3) fun w4 hb=>?_;have bw4:=bg bw3 hb;go_wp2;go_ret;exact⟨by cases z4<;>rfl,bw4⟩
 .rw[decide_eq_false h1];have e1:(aN==bN)=false:=by simpa using h1
  have bw:Below w.heap.size w ((w.alloc (.cells #[.int .i64 aN,.int .i64 ak,.int .i64 aW,.int .i64 aM,.slice ao ax.length ac,.int .i64 aL,.slice aq ay.length ad,.slice as_ au.length ae,.slice at_ av.length af] 59)).alloc (.cells #[.int .i64 bN,.int .i64 bk,.int .i64 bW,.int .i64 bM,.slice bo bx.length bc,.int .i64 bL,.slice bq b_y.length bd,.slice bs bu.length be,.slice bt bv_.length bf] 59)):=(below_alloc w _).alloc (by simp) _
  clear C1 C2 C3 C4 B1 B2 bZ hW W;go_enter func115,ntmps115;go_wp2;go_ret;exact⟨rfl,bw⟩
end Go.Proofs.YtleegaihbgbcjabGreatDoor
namespace Go.Proofs.YtleegaihbgbcjabGreatDoor
open Go.RowKit Num Bn
namespace Ow
theorem Gi:(prog.info? 126).map (fun i=>(i.zero,i.size,i.bytes))=some (some (.int .u64 0),1,8):=by kernel_rfl
theorem below_alloc(w:World)(o:Obj):Below w.heap.size w (w.alloc o):=(Below.refl _ _).alloc (Nat.le_refl _) _
def gt(xs:List Nat)(i:Nat):Nat:=xs.getD i 0
theorem gt_get(xs:List Nat)(i:Nat)(h:i<xs.length):xs[i]?=some (gt xs i):=by
 unfold gt;rw[List.getD_eq_getElem?_getD,List.getElem?_eq_getElem h];rfl
theorem gt_map(f:Nat->Nat)(n i:Nat)(h:i<n):gt ((List.range n).map f) i=f i:=by
 unfold gt;rw[List.getD_eq_getElem?_getD,List.getElem?_map,List.getElem?_range h];rfl
theorem gt_set(ys:List Nat)(j i v:Nat)(hj:j<ys.length):gt (ys.set j v) i=if j=i then v else gt ys i:=by
 unfold gt;rw[List.getD_eq_getElem?_getD,List.getD_eq_getElem?_getD,List.getElem?_set];by_cases c:j=i
 .subst c;simp[hj]
 .simp[c]
theorem list_ext{xs ys:List Nat}(hl:xs.length=ys.length)(h:∀i,i<xs.length->gt xs i=gt ys i):xs=ys:=by
 refine List.ext_getElem? fun i=>?_;by_cases c:i<xs.length
 .rw[gt_get xs i c,gt_get ys i (by omega),h i c]
 .rw[List.getElem?_eq_none (by omega),List.getElem?_eq_none (by omega)]
def wv(ys:List Nat):List Value:=ys.map fun y:Nat=>Value.int .u64 (y:Int)
theorem length_wv(ys:List Nat):(wv ys).length=ys.length:=by simp[wv]
def Own(w:World)(g:Nat)(ys:List Nat):Prop:=w.heap[g]?=some (.cells (wv ys).toArray 126 (0,0))
theorem own_made{w:World}{base g n:Nat}(h:w.ownsRow base 126 1 (.slice (some ⟨g,0,none⟩) n n) n (madeCells #[.int .u64 0] n).toList):Own w g (List.replicate n 0):=by
 obtain⟨_,h | ⟨g',cap,cur,e,_,hh,_,_,hs,ht⟩⟩:=h
 .simp at h
 .simp only[Value.slice.injEq,Option.some.injEq,Addr.mk.injEq]at e;obtain⟨⟨rfl,_,_⟩,_,rfl⟩:=e;unfold Own;rw[hh]
  have e2:(madeCells #[.int .u64 0] n).toList=wv (List.replicate n 0):=by
   rw[toList_madeCells_one (.int .u64 0) n,wv,List.map_replicate];rfl
  rw[e2]at ht;have e3:cur.toList.take (n*1)=cur.toList:=List.take_of_length_le (by simp;omega);rw[e3]at ht;rw[<-ht]
theorem Own.cell{w:World}{g:Nat}{ys:List Nat}(h:Own w g ys)(j:Nat)(hj:j<ys.length):w.cell? ⟨g,j,none⟩=some (.int .u64 (gt ys j)):=by
 unfold World.cell?;rw[show w.heap[({ block:=g,off:=j,spot:=none }:Addr).block]?=_ from h];simp only[List.getElem?_toArray,wv,List.getElem?_map,gt_get ys j hj];rfl
theorem Own.frozen{w:World}{g:Nat}{ys:List Nat}(h:Own w g ys)(j:Nat):w.frozen? ⟨g,j,none⟩=false:=by
 unfold World.frozen?;rw[show w.heap[({ block:=g,off:=j,spot:=none }:Addr).block]?=_ from h];simp
theorem Own.lt{w:World}{g:Nat}{ys:List Nat}(h:Own w g ys):g<w.heap.size:=(Array.getElem?_eq_some_iff.1 h).1
theorem Own.set{w:World}{g:Nat}{ys:List Nat}(h:Own w g ys)(j v:Nat):Own (w.setCell ⟨g,j,none⟩ (.int .u64 v)) g (ys.set j v):=by
 unfold Own at h⊢;simp only[World.setCell,Array.getElem?_modify];rw[if_pos trivial,h];simp[wv,List.map_set]
theorem Own.drew{w:World}{g:Nat}{ys:List Nat}(h:Own w g ys):Own w.drew g ys:=h
def rowP(n i:Nat):List Nat:=(List.range (n+1)).map (ch i)
def ff(n i j:Nat):List Nat:=(List.range (n+1)).map fun t=>if j<t then ch i t else ch (i-1) t
theorem gh(n i j:Nat):(ff n i j).length=n+1:=by simp[ff]
theorem length_rowP(n i:Nat):(rowP n i).length=n+1:=by simp[rowP]
theorem qp(n i:Nat):ff n i i=rowP n (i-1):=by
 unfold ff rowP;refine List.map_congr_left fun t _=>?_;by_cases c:i<t
 .rw[if_pos c,nj i t c,nj (i-1) t (by omega)]
 .rw[if_neg c]
theorem qm(n i:Nat):ff n i 0=rowP n i:=by
 unfold ff rowP;refine List.map_congr_left fun t _=>?_;by_cases c:0<t
 .rw[if_pos c]
 .obtain rfl:t=0:=by omega
  rw[if_neg c,jA,jA]
theorem jP(n i j t:Nat)(h:t<=n):gt (ff n i j) t=if j<t then ch i t else ch (i-1) t:=gt_map _ _ _ (by omega)
theorem m6(n i t:Nat)(h:t<=n):gt (rowP n i) t=ch i t:=gt_map _ _ _ (by omega)
theorem uu(n i j:Nat)(hi:1<=i)(hj:1<=j)(hn:j<=n):(ff n i j).set j (ch (i-1) j+ch (i-1) (j-1))=ff n i (j-1):=by
 refine list_ext (by rw[List.length_set,gh,gh]) fun t ht=>?_;rw[List.length_set,gh]at ht;rw[gt_set _ _ _ _ (by rw[gh];omega),jP _ _ _ _ (by omega),jP _ _ _ _ (by omega)]
 by_cases c:j=t
 .subst c;obtain⟨a,rfl⟩:∃a,i=a+1:=⟨i-1,by omega⟩;obtain⟨b,rfl⟩:∃b,j=b+1:=⟨j-1,by omega⟩;rw[if_pos rfl,if_pos (by omega),i9,Nat.add_sub_cancel,Nat.add_sub_cancel];omega
 .rw[if_neg c];by_cases d:j<t
  .rw[if_pos d,if_pos (by omega)]
  .rw[if_neg d,if_neg (by omega)]
theorem tG(n:Nat):(List.replicate (n+1) 0).set 0 1=rowP n 0:=by
 refine list_ext (by rw[List.length_set,length_rowP,List.length_replicate]) fun t ht=>?_;rw[List.length_set,List.length_replicate]at ht;rw[gt_set _ _ _ _ (by simp),m6 _ _ _ (by omega)];by_cases c:0=t
 .subst c;rw[if_pos rfl,jA]
 .rw[if_neg c,nj 0 t (by omega)];unfold gt;rw[List.getD_eq_getElem?_getD,List.getElem?_replicate];split<;>rfl
end Ow
namespace Ow
theorem Bc(n k:Int)(h:n<0\/62<n\/k<0\/n<k)(w:World):
  Qq 161 #[.int .i64 n,.int .i64 k] w (.int .u64 0):=by
 by_cases h1:n<0
 .go_enter func161,ntmps161;go_wp2;go_ret;exact⟨rfl,Below.refl _ _⟩
 by_cases h2:62<n
 .go_enter func161,ntmps161;go_wp2;go_ret;exact⟨rfl,Below.refl _ _⟩
 by_cases h3:k<0
 .go_enter func161,ntmps161;go_wp2;go_ret;exact⟨rfl,Below.refl _ _⟩
 .have h4:n<k:=by omega
  clear h;go_enter func161,ntmps161;go_wp2;go_ret;exact⟨rfl,Below.refl _ _⟩
theorem Be(n k:Nat)(hn:n<=62)(hk:k<=n)(w:World):
  Qq 161 #[.int .i64 n,.int .i64 k] w (.int .u64 (ch n k)):=by
 obtain⟨i0,hi,hz0,hz1,hz2⟩:=info_parts Gi;have hn2:(n:Int)<=62:=by omega
 have hk2:(k:Int)<=n:=by omega
 go_enter func161,ntmps161;go_wp2_with (at_make;refine wpList_make_full _ rfl _ _ 51 rfl w.heap.size 126 i0 (.int .u64 0) 1 underlying51 hi hz0 hz1 .i64 .i64 _ _ (n+1) rfl rfl rfl rfl ?b2 ?b3 ?b4 ?_)
 case b2=>rw[hz2];omega
 case b3=>unfold maxLen;omega
 case b4=>omega
 intro w1 hown hgr;have hO:Own w1 w.heap.size (List.replicate (n+1) 0):=own_made hown;have hb1:Below w.heap.size w w1:=(Below.refl _ _).grown hgr (Nat.le_refl _) (fun k h=>by cases h);clear hown hgr hi hz0 hz1 hz2
 have c0:=hO.cell 0 (by simp);have f0:=hO.frozen 0;have hO2:=hO.set 0 1;rw[tG]at hO2;have hb2:Below w.heap.size w (w1.setCell ⟨w.heap.size,0,none⟩ (.int .u64 ((1:Nat):Int))):=hb1.setCell (Nat.le_refl _) _
 have hl:(0:Int)<(n:Int)+1:=by omega
 go_wp2;go_loopw [6,7] (fun i j wr=>∃p:Nat,1<=p/\p<=n+1/\i=.int .i64 p/\Own wr w.heap.size (rowP n (p-1))/\Below w.heap.size w wr) (fun i _ _=>n+1-(intOf i).toNat)
 case atStart=>exact⟨1,Nat.le_refl _,by omega,rfl,hO2,hb2⟩
 case round=>
  obtain⟨p,hp1,hp2,rfl,hOr,hwr⟩:=hrel;clear hO hO2 hb1 hb2 c0 f0;by_cases hlt:p<=n
  .have hlt2:(p:Int)<=(n:Int):=by omega
   go_wp2;go_loopw [7] (fun j wz=>∃q:Nat,q<=p/\j=.int .i64 q/\Own wz w.heap.size (ff n p q)/\Below w.heap.size w wz) (fun j _=>(intOf j).toNat)
   case atStart=>exact⟨p,Nat.le_refl _,rfl,by rw[qp];exact hOr,hwr⟩
   case round=>
    obtain⟨q,hq,rfl,hOz,hwz⟩:=hrel;clear hOr hwr;by_cases h0:q=0
    .subst h0;rw[qm]at hOz;have HO:Hid (Own wr w.heap.size (rowP n p)):=hOz;clear hOz;go_wp2;exact⟨⟨p+1,by omega,by omega,by go_num,HO.out,hwz⟩,by simp only[intOf];omega⟩
    .have q0:(0:Int)<(q:Int):=by omega
     have e1:=hOz.cell q (by rw[gh];omega);have e2:=hOz.cell (q-1) (by rw[gh];omega);have fz:=hOz.frozen q;have l1:(q:Int)<(n:Int)+1:=by omega
     have l2:(q:Int)-1<(n:Int)+1:=by omega
     rw[jP _ _ _ _ (by omega),if_neg (by omega)]at e1 e2;have b1:=gW (p-1) q (by omega);have b2:=gW (p-1) (q-1) (by omega);have st:=hOz.set q (ch (p-1) q+ch (p-1) (q-1))
     rw[uu n p q hp1 (by omega) (by omega)]at st;have HO:Hid (Own (wr.setCell ⟨w.heap.size,q,none⟩ (.int .u64 ((ch (p-1) q+ch (p-1) (q-1):Nat):Int))).drew w.heap.size (ff n p (q-1))):=st
     have HB:Hid (Below w.heap.size w (wr.setCell ⟨w.heap.size,q,none⟩ (.int .u64 ((ch (p-1) q+ch (p-1) (q-1):Nat):Int))).drew):=(hwz.setCell (Nat.le_refl _) _).drew
     have ez:((q:Int)-1).toNat=q-1:=by omega
     have ad:IntKind.u64.wrap ((ch (p-1) q:Int)+(ch (p-1) (q-1):Int))=((ch (p-1) q+ch (p-1) (q-1):Nat):Int):=by rw[IntKind.wrap_u64];omega
     clear st hOz;generalize ch (p-1) q=A at *;generalize ch (p-1) (q-1)=B at *;go_wp2;go_region;go_wp2;exact⟨⟨q-1,by omega,by go_num,HO.out,HB.out⟩,by simp only[intOf];omega⟩
  .obtain rfl:p=n+1:=by omega
   have e1:=hOr.cell k (by rw[length_rowP];omega);rw[Nat.add_sub_cancel,m6 _ _ _ hk]at e1;have l1:(k:Int)<(n:Int)+1:=by omega
   obtain⟨Z,hZ⟩:∃Z,Hid (Z=ch n k):=⟨_,rfl⟩;rw[<-hZ.out]at e1;go_wp2;go_ret;rw[<-hZ.out];exact⟨rfl,hwr⟩
theorem nR(n k:Int)(w:World):
  Qq 161 #[.int .i64 n,.int .i64 k] w (.int .u64 (chN n k)):=by
 unfold chN;by_cases h:n<0\/62<n\/k<0\/n<k
 .rw[if_pos h];exact Bc n k h w
 .rw[if_neg h];obtain⟨a,rfl⟩:=Int.eq_ofNat_of_zero_le (show 0<=n by omega);obtain⟨b,rfl⟩:=Int.eq_ofNat_of_zero_le (show 0<=k by omega);exact Be a b (by omega) (by omega) w
end Ow
namespace Ow
theorem rwidth_c(n k:Int)(w:World):
  Qq 109 #[.int .i64 n,.int .i64 k] w (.int .i64 (wdN n k)):=by
 have C:Hid (∀w0,Qq 161 #[.int .i64 n,.int .i64 k] w0 (.int .u64 (chN n k))):=fun w0=>nR n k w0;have b:=xq n k;unfold wdN
 generalize chN n k=c at *;by_cases h0:c=0
 .subst h0;rw[if_pos rfl];go_enter func109,ntmps109;go_wp2_with fail;refine mr (C.out _) fun w1 hb=>?_;go_wp2;go_ret;exact⟨rfl,hb⟩
 .rw[if_neg h0];obtain⟨d,rfl⟩:∃d,c=d+1:=⟨c-1,by omega⟩;rw[Nat.add_sub_cancel]
  have L:Hid (∀w0,Qx 162 #[.int .u64 d] w0 (.int .i64 (Go.bitLen d))):=fun w0=>by
   have:=qe (d:Int) (by omega) (by omega) w0;unfold bI at this;rw[Int.toNat_natCast]at this;exact this
  have c1:(((d+1:Nat):Int)==0)=false:=by simp;omega
  generalize Go.bitLen d=Z at *;go_enter func109,ntmps109;go_wp2_with fail;refine mr (C.out _) fun w1 hb=>?_;have e2:((d+1:Nat):Int)=(d:Int)+1:=by omega
  rw[e2];go_wp2_with fail;refine mr (L.out _) fun w2 h2=>?_;rw[h2];clear h2 w2;go_wp2;go_ret;exact⟨rfl,hb⟩
theorem roffset_c(x:Nat)(n:Int)(hx:x<18446744073709551616)(h0: -9223372036854775808<=n)(h1:n<=9223372036854775807)(w:World):
  Qq 106 #[.int .u64 x,.int .i64 n] w (.tuple #[.int .i64 (gI x n),.int .u64 (gH x n)]):=by
 by_cases hn:n<0
 .rw[show gI x n=0 by unfold gI;rw[if_pos (.inl hn)],show gH x n=0 by unfold gH;rw[if_pos (.inl hn)]];go_enter func106,ntmps106;go_wp2;go_ret2;exact⟨rfl,Below.refl _ _⟩
 by_cases hn2:62<n
 .rw[show gI x n=0 by unfold gI;rw[if_pos (.inr hn2)],show gH x n=0 by unfold gH;rw[if_pos (.inr hn2)]];go_enter func106,ntmps106;go_wp2;go_ret2;exact⟨rfl,Below.refl _ _⟩
 rw[show gI x n=cnt x n.toNat by unfold gI;rw[if_neg (by omega)],show gH x n=off x n.toNat by unfold gH;rw[if_neg (by omega)]];obtain⟨m,rfl⟩:=Int.eq_ofNat_of_zero_le (show 0<=n by omega);rw[Int.toNat_natCast]
 have hm:m<=62:=by omega
 have R:Hid (∀w0,Qx 160 #[.int .u64 x,.int .i64 m] w0 (.int .i64 (cnt x m))):=fun w0=>by
  have:=AW (x:Int) (m:Int) (by omega) (by omega) (by omega) (by omega) w0;unfold dH at this;rw[Int.toNat_natCast,Int.toNat_natCast,Nat.min_eq_left (by omega)]at this;exact this
 have x0:(0:Int)<=(x:Int):=by omega
 have C:Hid (∀w0 (p:Nat),p<m->Qq 161 #[.int .i64 p,.int .i64 (cnt x (p+1))] w0 (.int .u64 (ch p (cnt x (p+1))))):=fun w0 p hp=>by
  have:=nR p (cnt x (p+1)) w0;rw[np p _ (by omega)]at this;exact this
 go_enter func106,ntmps106;go_wp2_with fail;refine mr (R.out _) fun w1 hw1=>?_;rw[hw1];clear hw1 w1 R;obtain⟨K,hK⟩:∃K,Hid (K=cnt x m):=⟨_,rfl⟩;rw[<-hK.out];go_wp2
 go_loopw [7,8,9] (fun o l i wr=>∃p O:Nat,p<=m/\i=.int .i64 ((p:Int)-1)/\l=.int .i64 (cnt x p)/\o=.int .u64 O/\O+off x p=off x m/\Below w.heap.size w wr) (fun _ _ i _=>(intOf i+1).toNat)
 case atStart=>exact⟨m,0,Nat.le_refl _,by go_num,by rw[hK.out],rfl,by omega,Below.refl _ _⟩
 case round=>
  obtain⟨p,O,hp,rfl,rfl,rfl,hO,hwr⟩:=hrel;by_cases hp0:p=0
  .subst hp0;have HO:Hid (O=off x m):=hO;clear hO;go_wp2;go_ret2;rw[<-HO.out,<-hK.out];exact⟨rfl,hwr⟩
  .obtain⟨q,rfl⟩:∃q,p=q+1:=⟨p-1,by omega⟩;have e1:((q+1:Nat):Int)-1=(q:Int):=by omega
   rw[e1];have q64:(q:Int)<64:=by omega
   have lt:=ou x m;have l62:=gW m (cnt x m) hm;by_cases hb:x/2^q%2=1
   .have T:((x:Int)/2^q).tmod 2=1:=by rw[jZ _ _ x0,Int.toNat_natCast,hb];rfl
    have ec:cnt x (q+1)=cnt x q+1:=by rw[cnt,hb]
    have eo:off x (q+1)=off x q+ch q (cnt x (q+1)):=by rw[off,if_pos hb]
    have D:Hid (∀w0,Qq 161 #[.int .i64 q,.int .i64 (cnt x (q+1))] w0 (.int .u64 (ch q (cnt x (q+1))))):=fun w0=>C.out w0 q (by omega);rw[eo]at hO
    generalize ch q (cnt x (q+1))=Z at *;have HO:Hid (O+Z+off x q=off x m):=by show O+Z+off x q=off x m;omega
    have bO:O+Z<4611686018427387904:=by omega
    obtain⟨c,hc⟩:∃c,Hid (c=cnt x q):=⟨_,rfl⟩;have ec2:((cnt x (q+1):Nat):Int)=(c:Int)+1:=by rw[hc.out,ec];omega
    rw[ec2]at D;rw[ec2];have c64:c<=62:=by rw[hc.out];have:=dL x q;omega
    clear ec eo hO lt l62 C ec2;go_wp2_with fail;refine mr (D.out _) fun w2 hb2=>?_;have hw2:=bg hwr hb2;clear D hb2 hwr;go_wp2
    exact⟨⟨q,O+Z,by omega,by go_num,by rw[<-hc.out],by go_num,HO.out,hw2⟩,by simp only[intOf];omega⟩
   .have T:((x:Int)/2^q).tmod 2=0:=by rw[jZ _ _ x0,Int.toNat_natCast,show x/2^q%2=0 by omega];rfl
    have ec:cnt x (q+1)=cnt x q:=by rw[cnt];omega
    have HO:Hid (O+off x q=off x m):=by
     rw[off,if_neg hb]at hO;exact hO
    rw[ec];clear ec hO lt l62 C;go_wp2;exact⟨⟨q,O,by omega,by go_num,rfl,rfl,HO.out,hwr⟩,by simp only[intOf];omega⟩
theorem shl_one(k:Nat)(h:k<64):IntKind.u64.wrap ((2:Int)^k)=((2^k:Nat):Int):=by
 have e:((2:Int)^k)=((2^k:Nat):Int):=by rw[Int.natCast_pow];rfl
 have:=fu k h;rw[e,IntKind.wrap_u64];generalize (2^k:Nat)=Z at *;omega
theorem ux(X p:Nat)(h:X%2^(p+1)=0):X|||2^p=X+2^p:=by
 have e:X=2^(p+1)*(X/2^(p+1)):=by
  have:=Nat.div_add_mod X (2^(p+1));omega
 have lt:2^p<2^(p+1):=by rw[Nat.pow_succ];have:=Nat.two_pow_pos p;omega
 rw[e];exact(Nat.two_pow_add_eq_or_of_lt lt _).symm
theorem qC(X p:Nat)(h:X%2^(p+1)=0):X%2^p=0:=by
 have:=uV X p;have:=Nat.two_pow_pos p;omega
theorem uU(X p:Nat)(h:X%2^(p+1)=0):(X+2^p)%2^p=0:=by
 rw[Nat.add_mod_right];exact qC X p h
theorem rblock_c(n k:Int)(o:Nat)(ho:o<18446744073709551616)(w:World):
  Qq 209 #[.int .i64 n,.int .i64 k,.int .u64 o] w (.tuple #[.int .u64 (bkX n k o),.bool (bkB n k o)]):=by
 have C:Hid (∀w0,Qq 161 #[.int .i64 n,.int .i64 k] w0 (.int .u64 (chN n k))):=fun w0=>nR n k w0;by_cases hc:chN n k<=o
 .rw[show bkX n k o=0 by unfold bkX;rw[if_pos hc],show bkB n k o=false by unfold bkB;simp;omega];have hc2:(chN n k:Int)<=(o:Int):=by omega
  generalize chN n k=Z at *;go_enter func209,ntmps209;go_wp2_with fail;refine mr (C.out _) fun w1 hb=>?_;go_wp2;go_ret2;exact⟨rfl,hb⟩
 .have hin:¬(n<0\/62<n\/k<0\/n<k):=by
   intro h;apply hc;unfold chN;rw[if_pos h];omega
  rw[show bkX n k o=blk n.toNat k.toNat o by unfold bkX;rw[if_neg hc],show bkB n k o=true by unfold bkB;simp;omega];obtain⟨a,rfl⟩:=Int.eq_ofNat_of_zero_le (show 0<=n by omega)
  obtain⟨b,rfl⟩:=Int.eq_ofNat_of_zero_le (show 0<=k by omega);rw[Int.toNat_natCast,Int.toNat_natCast];have ha:a<=62:=by omega
  have hba:b<=a:=by omega
  have hc2:¬((chN a b:Nat):Int)<=(o:Int):=by omega
  clear hin;generalize chN a b=Z at *;go_enter func209,ntmps209;go_wp2_with fail;refine mr (C.out _) fun w1 hb=>?_;clear C;go_wp2
  go_loopw [1,2,8,9,10] (fun kv ov xv i cv wr=>∃p K O X:Nat,p<=a/\K<=62/\O<18446744073709551616/\i=.int .i64 ((p:Int)-1)/\kv=.int .i64 K/\ov=.int .u64 O/\xv=.int .u64 X/\(X+blk p K O=blk a b o/\X%2^p=0)/\Below w.heap.size w wr) (fun _ _ _ i _ _=>(intOf i+1).toNat)
  case atStart=>exact⟨a,b,o,0,Nat.le_refl _,by omega,ho,by go_num,rfl,rfl,rfl,⟨by omega,by simp⟩,hb⟩
  case round=>
   obtain⟨p,K,O,X,hp,hK,hO,rfl,rfl,rfl,rfl,⟨hX,hM⟩,hwr⟩:=hrel
   have bX:X<4611686018427387904:=by
    have:=jY a b o;have:2^a<=2^62:=Nat.pow_le_pow_right (by decide) ha;omega
   by_cases hp0:p=0
   .subst hp0;have HX:Hid (X=blk a b o):=hX;clear hX hM;go_wp2;go_ret2;rw[<-HX.out];exact⟨rfl,hwr⟩
   obtain⟨q,rfl⟩:∃q,p=q+1:=⟨p-1,by omega⟩;have e1:((q+1:Nat):Int)-1=(q:Int):=by omega
   rw[e1];have q64:(q:Int)<64:=by omega
   by_cases hK0:K=0
   .subst hK0;have HX:Hid (X=blk a b o):=by rw[kO]at hX;exact hX
    clear hX hM;go_wp2;go_ret2;rw[<-HX.out];exact⟨rfl,hwr⟩
   have hK1:(0:Int)<(K:Int):=by omega
   have D:Hid (∀w0,Qq 161 #[.int .i64 q,.int .i64 K] w0 (.int .u64 (ch q K))):=fun w0=>by
    have:=nR q K w0;rw[np q K (by omega)]at this;exact this
   by_cases hge:ch q K<=O
   .have HX:Hid (X+2^q+blk q (K-1) (O-ch q K)=blk a b o):=by rw[nB q K O hK0 hge]at hX;show _=_;omega
    have HM:Hid ((X+2^q)%2^q=0):=uU X q hM
    have HR:Hid (bits .or .u64 (X:Int) (IntKind.u64.wrap (2^q))=((X+2^q:Nat):Int)):=by
     show bits .or .u64 (X:Int) (IntKind.u64.wrap (2^q))=((X+2^q:Nat):Int);rw[shl_one q (by omega),u64_or_nat _ _ (by omega) (fu q (by omega)),ux X q hM]
    have hge2:((ch q K:Nat):Int)<=(O:Int):=by omega
    clear hX hM;obtain⟨Z2,hZ2⟩:∃Z2,Hid (Z2=ch q K):=⟨_,rfl⟩;rw[<-hZ2.out]at D hge hge2 HX;go_wp2_with fail;refine mr (D.out _) fun w2 hb2=>?_;have hw2:=bg hwr hb2;clear D hb2 hwr
    go_wp2;exact⟨⟨q,K-1,O-Z2,X+2^q,by omega,by omega,by omega,by go_num,by go_num,by go_num,congrArg (Value.int .u64) HR.out,⟨HX.out,HM.out⟩,hw2⟩,by simp only[intOf];omega⟩
   .have HX:Hid (X+blk q K O=blk a b o):=by rw[nA q K O hK0 hge]at hX;exact hX
    have HM:Hid (X%2^q=0):=qC X q hM;have hge2:¬((ch q K:Nat):Int)<=(O:Int):=by omega
    clear hX hM;obtain⟨Z2,hZ2⟩:∃Z2,Hid (Z2=ch q K):=⟨_,rfl⟩;rw[<-hZ2.out]at D hge hge2;go_wp2_with fail;refine mr (D.out _) fun w2 hb2=>?_;have hw2:=bg hwr hb2;clear D hb2 hwr
    go_wp2;exact⟨⟨q,K,O,X,by omega,hK,hO,by go_num,rfl,rfl,rfl,⟨HX.out,HM.out⟩,hw2⟩,by simp only[intOf];omega⟩
end Ow
open Go.RowKit Num Bit Bn
def j5(v:Nat):Int:=IntKind.i64.wrap (v:Int)
theorem sk(v:Nat)(h:v<18446744073709551616):chN 15 (j5 v)=chN 15 v:=by
 unfold j5;by_cases c:v<9223372036854775808
 .have e:IntKind.i64.wrap (v:Int)=(v:Int):=by rw[IntKind.wrap_i64];omega
  rw[e]
 .have e:IntKind.i64.wrap (v:Int)=(v:Int)-18446744073709551616:=by rw[IntKind.wrap_i64];omega
  rw[e];unfold chN;rw[if_pos (by omega),if_pos (by omega)]
theorem JU(v:Nat)(h:v<18446744073709551616):wdN 15 (j5 v)=wdN 15 v:=by unfold wdN;rw[sk v h]
theorem JW(v o:Nat)(h:v<18446744073709551616):bkB 15 (j5 v) o=bkB 15 v o:=by unfold bkB;rw[sk v h]
theorem JV(v o:Nat)(h:v<18446744073709551616):bkX 15 (j5 v) o=bkX 15 v o:=by
 unfold bkX;rw[sk v h];by_cases c:chN 15 v<=o
 .rw[if_pos c,if_pos c]
 .rw[if_neg c,if_neg c]
  have hv:v<=15:=by
   refine Nat.le_of_not_lt fun hc=>c ?_;unfold chN;rw[if_pos (by omega)];omega
  have:j5 v=(v:Int):=by unfold j5;rw[IntKind.wrap_i64];omega
  rw[this]
theorem Jt(b t:Nat):Bit.bits b (t+1)=Bit.bits b t++[b.testBit t]:=by
 unfold Bit.bits;rw[List.range_succ,List.map_append];rfl
theorem I6(l m:List Bool):bP l++bP m=bP (l++m):=by simp[bP]
theorem I5(l:List Bool)(b:Bool):bP l++[.bool b]=bP (l++[b]):=by simp[bP]
theorem rX{w:World}{base n c:Nat}{ao:Option Addr}{l:List Bool}(h:w.ownsRow base 4 1 (.slice ao n c) n (bP l)):Bl w ao l:=by
 intro h0;have hlen:(bP l).length=n*1:=h.1;have hl:l.length=n:=by simp[bP]at hlen;omega
 have hk:=fun k hk=>h.lt k hk;have hc:=fun g hg=>h.cells (g:=g) hg;obtain⟨_,⟨e,e2⟩ | ⟨g,cap,cur,e,_⟩⟩:=h
 .omega
 .simp only[Value.slice.injEq]at e;obtain⟨rfl,_,rfl⟩:=e;refine⟨g,0,rfl,(hk g rfl).2,fun i hi=>?_⟩
  have hu:(bP l)[i]?=some (.bool (bt l i)):=by
   unfold bP bt;rw[List.getElem?_map,List.getD_eq_getElem?_getD,List.getElem?_eq_getElem hi];rfl
  rw[<-hc g rfl i _ hu];unfold Addr.add;split
  .subst_vars;rfl
  .simp
theorem Fq(N:Nat)(M:Int)(ys:List Nat):∀l a out r,out.length<=N->gA N M ys l a out=some r->r.length<=N:=by
 intro l;induction l with
 | nil=>intro a out r h e;simp only[gA,Option.some.injEq]at e;subst e;exact h
 | cons k l ih=>
  intro a out r h e;rw[gA]at e;split at e
  .refine ih _ _ r ?_ e;unfold eW;rw[List.length_append,oL];omega
  .cases e
theorem Wd.cellAt{w:World}{ao:Option Addr}{l:List Nat}(h:Wd w ao l)(q:Nat)(hq:q<l.length):∃b off,ao=some ⟨b,off,none⟩/\w.cell? ⟨b,off+q,none⟩=some (.int .u64 (gt l q)):=by
 obtain⟨b,off,e,_,hc⟩:=h (by omega);exact⟨b,off,e,hc q hq⟩
end Go.Proofs.YtleegaihbgbcjabGreatDoor
namespace Go.Proofs.YtleegaihbgbcjabGreatDoor
open Num Bit Bn
theorem uE(l:List Nat)(W:Nat)(hW:1<=W)(hl:∀i,gt l i<2^W)(i:Nat)(hi:i<l.length):numAt W (mkS l W l.length) i=gt l i:=by
 unfold numAt;refine(iY W (gt l i) _ fun k=>?_).symm;by_cases c:k<W
 .unfold mkS
  have e1:(i*W+k)/W=i:=by
   rw[Nat.mul_comm,Nat.mul_add_div (by omega),Nat.div_eq_of_lt c];omega
  have e2:(i*W+k)%W=k:=by rw[Nat.mul_comm,Nat.mul_add_mod,Nat.mod_eq_of_lt c]
  have e3:i*W+k<l.length*W:=by
   have:=lF l.length W i hi;omega
  rw[fk,e1,e2];simp[c,e3]
 .have:gt l i<2^k:=Nat.lt_of_lt_of_le (hl i) (Nat.pow_le_pow_right (by decide) (by omega));rw[Nat.testBit_lt_two_pow this];simp[c]
theorem v_(l:List Nat)(W:Nat)(hW:1<=W)(hW2:W<=64)(hl:l.length*W<=1048576):aQ (l.length:Int) (W:Int) ((l.length*W:Nat):Int) (mkS l W l.length)=true:=by
 unfold aQ;rw[Bool.and_eq_true,decide_eq_true_eq];refine⟨⟨by omega,by omega,by omega,by rw[Int.natCast_mul]⟩,?_⟩;exact gB _ _ hl
theorem o_(m:Nat)(f:Nat->Bool)(n i:Nat)(h:i<n):gt (cC m f n) i=bcl m f i:=by
 unfold cC gt;rw[List.getD_eq_getElem?_getD,List.getElem?_map,List.getElem?_range h];rfl
theorem pC(m:Nat)(f:Nat->Bool)(n i:Nat):gt (cC m f n) i<2^4:=by
 by_cases c:i<n
 .rw[o_ m f n i c];have:=jd m f i;omega
 .rw[js _ _ (by rw[eJ];omega)];decide
theorem gK(m:Nat)(hm:m<=1048576):nb m<=69906:=by unfold nb;omega
theorem Fi(m:Nat)(f:Nat->Bool):(List.range (nb m)).map (numAt 4 (mkS (cC m f (nb m)) 4 (nb m)))=cC m f (nb m):=by
 unfold cC;refine List.map_congr_left fun i hi=>?_;have hi:=List.mem_range.1 hi;have:=uE (cC m f (nb m)) 4 (by decide) (pC m f (nb m)) i (by rw[eJ];exact hi)
 rw[eJ,o_ m f _ i hi]at this;unfold cC at this;exact this
theorem me(m:Nat)(f:Nat->Bool):aC (di m f (nb m))=rowOf (bat m f (nb m)) fun j=>(di m f (nb m)).getD j false:=by
 unfold aC;rw[jp];rfl
theorem GU(m:Nat)(f:Nat->Bool):aC ((List.range m).map f)=rowOf m f:=by
 unfold aC;rw[List.length_map,List.length_range];refine da m _ _ fun i hi=>?_;unfold bt;rw[List.getD_eq_getElem?_getD,List.getElem?_map,List.getElem?_range hi];rfl
theorem Il(m:Nat)(f:Nat->Bool)(hm:m<=1048576):
  gA m (bat m f (nb m)) (aC (di m f (nb m))) ((List.range (nb m)).map (numAt 4 (mkS (cC m f (nb m)) 4 (nb m)))) 0 []=some ((List.range m).map f):=by
 rw[Fi,me];have h:=Ik m f (bat m f (nb m)) _ (tP m f hm) (nb m) 0 (by omega);rw[show min (15*0) m=0 by omega]at h;rw[<-List.range_eq_range']at h;exact h
open Go.RowKit Num Bit Bn
theorem vX:(prog.info? 3).map (fun i=>(i.zero,i.size,i.bytes))=some (some (.int .i64 0),1,8):=by kernel_rfl
def ca(l:List Int):List Value:=l.map fun n:Int=>Value.int .i64 n
def de(m:Nat)(f:Nat->Bool)(G:Nat):List Int:=(List.range G).map fun j=>(bon m f (8*j):Int)
def db(m:Nat)(f:Nat->Bool)(G:Nat):List Int:=(List.range G).map fun j=>(bat m f (8*j):Int)
theorem oh(m:Nat)(f:Nat->Bool)(G:Nat):ca (de m f G)++[.int .i64 (bon m f (8*G))]=ca (de m f (G+1)):=by
 unfold de ca;rw[List.range_succ,List.map_append,List.map_append];rfl
theorem nX(m:Nat)(f:Nat->Bool)(G:Nat):ca (db m f G)++[.int .i64 (bat m f (8*G))]=ca (db m f (G+1)):=by
 unfold db ca;rw[List.range_succ,List.map_append,List.map_append];rfl
theorem JQ(m:Nat)(f:Nat->Bool)(p:Nat):wv (cC m f p)++[.int .u64 (bcl m f p)]=wv (cC m f (p+1)):=by
 unfold cC wv;rw[List.range_succ,List.map_append,List.map_append];rfl
theorem Ji(m:Nat)(f:Nat->Bool)(p:Nat):bP (di m f p)++bP (Bit.bits (bof m f p) (d_ m f p))=bP (di m f (p+1)):=by
 rw[I6,di]
structure R8 (w wr:World) (m n cap:Nat) (ao:Option Addr) (g:Nat) (ov pv:Value):Prop where
 b1:aa wr w.heap.size [.int .i64 m,.slice ao n cap] 53
 b2:aa wr (w.heap.size+1) [.int .i64 0,.int .i64 0,.int .i64 0,.int .i64 0,.slice none 0 0,.int .i64 0,.slice none 0 0,.slice none 0 0,.slice none 0 0] 59
 bx:aa wr g [.int .i64 m,.int .i64 0,.int .i64 0,.int .i64 0,.slice none 0 0,.int .i64 0,.slice none 0 0,ov,pv] 59
 hg:w.heap.size+1<g
 hw:Below w.heap.size w wr
theorem R8.keep{w wr w':World}{m n cap:Nat}{ao:Option Addr}{g:Nat}{ov pv:Value}(h:R8 w wr m n cap ao g ov pv){base:Nat}(hb:Below base wr w')(hg:g<base):R8 w w' m n cap ao g ov pv:=
 have:=h.hg
 ⟨h.b1.keep hb (by omega),h.b2.keep hb (by omega),h.bx.keep hb hg,h.hg,h.hw.trans (hb.mono (by omega))⟩
theorem R8.ones{w wr:World}{m n cap:Nat}{ao:Option Addr}{g:Nat}{ov pv:Value}(h:R8 w wr m n cap ao g ov pv)(v:Value):R8 w (wr.setCell ⟨g,7,none⟩ v) m n cap ao g v pv:=
 have:=h.hg
 ⟨h.b1.other (by show w.heap.size≠g;omega) v,h.b2.other (by show w.heap.size+1≠g;omega) v,h.bx.set 7 v,h.hg,h.hw.setCell (by show w.heap.size<=g;omega) _⟩
theorem R8.pts{w wr:World}{m n cap:Nat}{ao:Option Addr}{g:Nat}{ov pv:Value}(h:R8 w wr m n cap ao g ov pv)(v:Value):R8 w (wr.setCell ⟨g,8,none⟩ v) m n cap ao g ov v:=
 have:=h.hg
 ⟨h.b1.other (by show w.heap.size≠g;omega) v,h.b2.other (by show w.heap.size+1≠g;omega) v,h.bx.set 8 v,h.hg,h.hw.setCell (by show w.heap.size<=g;omega) _⟩
structure RW (wr:World) (b:Nat) (cv fv ov pv:Value) (p1 p2 G1 G2 m:Nat) (f:Nat->Bool):Prop where
 c:wr.ownsRow b 126 1 cv p1 (wv (cC m f p1))
 o:wr.ownsRow b 4 1 fv (bat m f p2) (bP (di m f p2))
 n:wr.ownsRow b 3 1 ov G1 (ca (de m f G1))
 t:wr.ownsRow b 3 1 pv G2 (ca (db m f G2))
 co:Ap.Apart cv fv
 cn:Ap.Apart cv ov
 ct:Ap.Apart cv pv
 on:Ap.Apart fv ov
 ot:Ap.Apart fv pv
 nt:Ap.Apart ov pv
theorem RW.keep{wr w2:World}{b:Nat}{cv fv ov pv:Value}{p1 p2 G1 G2 m:Nat}{f:Nat->Bool}(h:RW wr b cv fv ov pv p1 p2 G1 G2 m f)(hb:Below wr.heap.size wr w2):RW w2 b cv fv ov pv p1 p2 G1 G2 m f:=
 ⟨Ap.owns_below h.c hb,Ap.owns_below h.o hb,Ap.owns_below h.n hb,Ap.owns_below h.t hb,h.co,h.cn,h.ct,h.on,h.ot,h.nt⟩
theorem jI{w:World}{base e n:Nat}{v u:Value}{vs:List Value}{a:Addr}(h:w.ownsRow base e 1 v n vs)(ha:a.block<base):(w.setCell a u).ownsRow base e 1 v n vs:=by
 obtain⟨h1,h2 | ⟨g,cap,cur,e1,e2,hh,r⟩⟩:=h
 .exact⟨h1,.inl h2⟩
 .exact⟨h1,.inr ⟨g,cap,cur,e1,e2,(Below.heap_setCell w a u g (by omega)).trans hh,r⟩⟩
theorem RW.set{wr:World}{b:Nat}{cv fv ov pv:Value}{p1 p2 G1 G2 m:Nat}{f:Nat->Bool}(h:RW wr b cv fv ov pv p1 p2 G1 G2 m f){a:Addr}(ha:a.block<b)(u:Value):RW (wr.setCell a u) b cv fv ov pv p1 p2 G1 G2 m f:=
 ⟨jI h.c ha,jI h.o ha,jI h.n ha,jI h.t ha,h.co,h.cn,h.ct,h.on,h.ot,h.nt⟩
theorem RW.c'{wr w2:World}{b:Nat}{cv fv ov pv:Value}{p1 p2 G1 G2 m:Nat}{f:Nat->Bool}(h:RW wr b cv fv ov pv p1 p2 G1 G2 m f){u:Value}(ho:w2.ownsRow b 126 1 u (p1+1) (wv (cC m f (p1+1))))(hblk:∀k,u.ownBlock=some k->(cv.ownBlock=some k\/k=wr.heap.size)/\k<w2.heap.size)(hkeep:∀k,k<wr.heap.size->cv.ownBlock≠some k->w2.heap[k]?=wr.heap[k]?):RW w2 b u fv ov pv (p1+1) (p2) (G1) (G2) m f:=
 ⟨ho,(Ap.owns_other h.o hkeep h.co.symm),(Ap.owns_other h.n hkeep h.cn.symm),(Ap.owns_other h.t hkeep h.ct.symm),(Ap.apart_new h.o hblk h.co.symm).symm,(Ap.apart_new h.n hblk h.cn.symm).symm,(Ap.apart_new h.t hblk h.ct.symm).symm,h.on,h.ot,h.nt⟩
theorem RW.o'{wr w2:World}{b:Nat}{cv fv ov pv:Value}{p1 p2 G1 G2 m:Nat}{f:Nat->Bool}(h:RW wr b cv fv ov pv p1 p2 G1 G2 m f){u:Value}(ho:w2.ownsRow b 4 1 u (bat m f (p2+1)) (bP (di m f (p2+1))))(hblk:∀k,u.ownBlock=some k->(fv.ownBlock=some k\/k=wr.heap.size)/\k<w2.heap.size)(hkeep:∀k,k<wr.heap.size->fv.ownBlock≠some k->w2.heap[k]?=wr.heap[k]?):RW w2 b cv u ov pv (p1) (p2+1) (G1) (G2) m f:=
 ⟨(Ap.owns_other h.c hkeep h.co),ho,(Ap.owns_other h.n hkeep h.on.symm),(Ap.owns_other h.t hkeep h.ot.symm),(Ap.apart_new h.c hblk h.co),h.cn,h.ct,(Ap.apart_new h.n hblk h.on.symm).symm,(Ap.apart_new h.t hblk h.ot.symm).symm,h.nt⟩
theorem RW.n'{wr w2:World}{b:Nat}{cv fv ov pv:Value}{p1 p2 G1 G2 m:Nat}{f:Nat->Bool}(h:RW wr b cv fv ov pv p1 p2 G1 G2 m f){u:Value}(ho:w2.ownsRow b 3 1 u (G1+1) (ca (de m f (G1+1))))(hblk:∀k,u.ownBlock=some k->(ov.ownBlock=some k\/k=wr.heap.size)/\k<w2.heap.size)(hkeep:∀k,k<wr.heap.size->ov.ownBlock≠some k->w2.heap[k]?=wr.heap[k]?):RW w2 b cv fv u pv (p1) (p2) (G1+1) (G2) m f:=
 ⟨(Ap.owns_other h.c hkeep h.cn),(Ap.owns_other h.o hkeep h.on),ho,(Ap.owns_other h.t hkeep h.nt.symm),h.co,(Ap.apart_new h.c hblk h.cn),h.ct,(Ap.apart_new h.o hblk h.on),h.ot,(Ap.apart_new h.t hblk h.nt.symm).symm⟩
theorem RW.t'{wr w2:World}{b:Nat}{cv fv ov pv:Value}{p1 p2 G1 G2 m:Nat}{f:Nat->Bool}(h:RW wr b cv fv ov pv p1 p2 G1 G2 m f){u:Value}(ho:w2.ownsRow b 3 1 u (G2+1) (ca (db m f (G2+1))))(hblk:∀k,u.ownBlock=some k->(pv.ownBlock=some k\/k=wr.heap.size)/\k<w2.heap.size)(hkeep:∀k,k<wr.heap.size->pv.ownBlock≠some k->w2.heap[k]?=wr.heap[k]?):RW w2 b cv fv ov u (p1) (p2) (G1) (G2+1) m f:=
 ⟨(Ap.owns_other h.c hkeep h.ct),(Ap.owns_other h.o hkeep h.ot),(Ap.owns_other h.n hkeep h.nt),ho,h.co,h.cn,(Ap.apart_new h.c hblk h.ct),h.on,(Ap.apart_new h.o hblk h.ot),(Ap.apart_new h.n hblk h.nt)⟩
theorem sQ{w:World}{base n c:Nat}{ao:Option Addr}{l:List Nat}(h:w.ownsRow base 126 1 (.slice ao n c) n (wv l)):Wd w ao l:=by
 intro h0;have hlen:(wv l).length=n*1:=h.1;have hl:l.length=n:=by simp[wv]at hlen;omega
 have hk:=fun k hk=>h.lt k hk;have hc:=fun g hg=>h.cells (g:=g) hg;obtain⟨_,⟨e,e2⟩ | ⟨g,cap,cur,e,_⟩⟩:=h
 .omega
 .simp only[Value.slice.injEq]at e;obtain⟨rfl,_,rfl⟩:=e;refine⟨g,0,rfl,(hk g rfl).2,fun i hi=>?_⟩
  have hu:(wv l)[i]?=some (.int .u64 (gt l i)):=by
   unfold wv;rw[List.getElem?_map,gt_get l i hi];rfl
  rw[<-hc g rfl i _ hu];unfold Addr.add;split
  .subst_vars;rfl
  .simp
theorem yA{w w1 w2:World}{b:Nat}{ao:Option Addr}{l:List Nat}(h:Wd w ao l)(hb:∀a,0<l.length->ao=some a->a.block<b)(h1:Below w.heap.size w w1)(h2:Below b w1 w2):Wd w2 ao l:=by
 intro h0;obtain⟨c,off,e,hlt,hc⟩:=h h0;have hcb:=hb _ h0 e;refine⟨c,off,e,?_,fun i hi=>((h2.cell (p:=⟨c,off+i,none⟩) hcb).trans (h1.cell (p:=⟨c,off+i,none⟩) hlt)).trans (hc i hi)⟩;have:=h1.size
 have:=h2.size;omega
theorem pB{base:Nat}{w w':World}(h:Below base w w')(b i:Nat)(v:Value)(hb:base<=b):Below base w (w'.setCell ⟨b,i,none⟩ v):=h.setCell hb _
def rwN(o:Option (List Bool)):Nat:=(o.map List.length).getD 0
def rwX(o:Option (List Bool)):List Nat:=(o.map aC).getD []
theorem Ij(l:List Nat)(q:Nat)(h:q<l.length):l.drop q=gt l q::l.drop (q+1):=by
 rw[List.drop_eq_getElem_cons h];congr 1;unfold gt;rw[List.getD_eq_getElem?_getD,List.getElem?_eq_getElem h];rfl
theorem Ao(m n V:Nat)(M:Int)(ao:Option Addr)(xs:List Nat)(cap:Nat)(L:Int)(qo:Option Addr)(ys:List Nat)(dap:Nat)(so:Option Addr)(sn sc:Nat)(tO:Option Addr)(tn tc:Nat)(w:World)
  (hm:m<=1048576) (hx:Wd w ao xs) (hf:aA xs) (hik:aQ (n:Int) (V:Int) M xs=true) (hy:Wd w qo ys) (hfy:aA ys) (O:Option (List Bool)) (hO:gA m L ys ((List.range n).map (numAt V xs)) 0 []=O):
  Calls prog 190 #[.agg #[.int .i64 m,.int .i64 n,.int .i64 V,.int .i64 M,.slice ao xs.length cap,.int .i64 L,.slice qo ys.length dap,.slice so sn sc,.slice tO tn tc]] w fun e w'=>∃bo bc,e=.returned (.agg #[.int .i64 (rwN O),.slice bo (rwX O).length bc])/\Wd w' bo (rwX O)/\aA (rwX O)/\(rwX O).length<=bc/\Below w.heap.size w w':=by
 obtain⟨a1,a2,a3,a4,a5,a6,a7,a8⟩:=dZ n V M xs hik;have hn:n<=1048576:=by omega
 obtain⟨i0,hi,hz0,hz1,hz2⟩:=info_parts Tryz.info4
 obtain⟨W,hW⟩:∃W,W=(w.alloc (.cells #[.int .i64 m,.int .i64 n,.int .i64 V,.int .i64 M,.slice ao xs.length cap,.int .i64 L,.slice qo ys.length dap,.slice so sn sc,.slice tO tn tc] 59)).alloc (.cells #[.int .i64 0,.slice none 0 0] 53):=⟨_,rfl⟩
 have bZ:Below w.heap.size w W:=by rw[hW];exact(below_alloc w _).alloc (by simp) _
 have B1:=dj hW;have B2:=cQ hW
 have LI:Hid (∀w0,w0=W->Calls prog 207 #[.agg #[.int .i64 n,.int .i64 V,.int .i64 M,.slice ao xs.length cap]] w0 fun e w'=>∃v,e=.returned v/\w'.ownsRow w0.heap.size 126 1 v n (wv ((List.range n).map (numAt V xs)))/\Below w0.heap.size w0 w'):=fun w0 h=>by subst h;exact tM M n V ao xs cap w0 (hx.keep bZ) hf hik
 have lC:((List.range n).map (numAt V xs)).length=n:=by simp
 have fC:∀q,gt ((List.range n).map (numAt V xs)) q<18446744073709551616:=by
  intro q;by_cases c:q<n
  .unfold gt;rw[List.getD_eq_getElem?_getD,List.getElem?_map,List.getElem?_range c];show numAt V xs q<18446744073709551616;unfold numAt;have h1:=fg V (fun k=>bitAt xs (q*V+k))
   have h2:2^V<=2^64:=Nat.pow_le_pow_right (by decide) (by omega);omega
  .rw[js _ _ (by rw[lC];omega)];decide
 generalize (List.range n).map (numAt V xs)=CL at *;clear a1 a2 a3 a4 a5 a6 a7 a8 hik;go_enter func190,ntmps190;go_wp2_with fail;rw[<-hW];refine(LI.out _ rfl).mono ?_;rintro e w1 ⟨v1,rfl,own1,hb⟩
 obtain⟨co,cc,rfl,hcc, -⟩:=Ap.owns_shape own1;have hC:=sQ own1;have hw1:=bg bZ hb;replace B1:=B1.kept hb;replace B2:=B2.kept hb;obtain⟨b,hbd⟩:∃b,b=w1.heap.size:=⟨_,rfl⟩
 have l1:=B1.lt;have l2:=B2.lt
 have hcb:∀a,0<CL.length->co=some a->a.block<b:=fun a h0 e=>by
  obtain⟨c,off,e2,hlt,_⟩:=hC h0;rw[e2]at e;cases e;show c<b;omega
 rw[<-hbd]at l1 l2;clear hb LI hW bZ W own1;go_wp2
 go_loopw [3,4,6,7,8,9,10,11,12,13] (fun ov av iv_ _ _ _ _ _ _ _ wr=>∃(q A:Nat) (ot:List Bool) (oo:Option Addr) (oc:Nat),q<=n/\iv_=.int .i64 q/\av=.int .i64 A/\A<=62*q/\ov=.slice oo ot.length oc/\ot.length<=m/\wr.ownsRow b 4 1 (.slice oo ot.length oc) ot.length (bP ot)/\Hid (gA m L ys (CL.drop q) A ot=O)/\aa wr w.heap.size [.int .i64 m,.int .i64 n,.int .i64 V,.int .i64 M,.slice ao xs.length cap,.int .i64 L,.slice qo ys.length dap,.slice so sn sc,.slice tO tn tc] 59/\aa wr (w.heap.size+1) [.int .i64 0,.slice none 0 0] 53/\Wd wr co CL/\b<=wr.heap.size/\Below w.heap.size w wr) (fun _ _ iv_ _ _ _ _ _ _ _ _=>n-(intOf iv_).toNat)
 case atStart=>exact⟨0,0,[],none,0,by omega,rfl,rfl,by omega,rfl,by simp,World.ownsRow_nil _ _ _ _,hO,B1,B2,hC,by omega,hw1⟩
 case round=>
  obtain⟨q,A,ot,oo,oc,hq,rfl,rfl,hA,rfl,hol,hown,HO,X1,X2,XC,hbw,hwr⟩:=hrel;clear B1 B2 hC hw1 hO hbd;by_cases hlt:q<n
  .have hlt2:(q:Int)<(n:Int):=by omega
   obtain⟨cb,co2,rfl,ce⟩:=XC.cellAt q (by omega);obtain⟨v,hv⟩:∃v,Hid (v=gt CL q):=⟨_,rfl⟩;have v64:v<18446744073709551616:=by rw[hv.out];exact fC q
   rw[<-hv.out]at ce;obtain⟨K,hK⟩:∃K,Hid (K=j5 v):=⟨_,rfl⟩;have eK:IntKind.i64.wrap (v:Int)=K:=hK.out.symm
   have WD:Hid (∀w0,Qq 109 #[.int .i64 15,.int .i64 K] w0 (.int .i64 (wdN 15 v))):=fun w0=>by
    have:=Ow.rwidth_c 15 K w0;rw[hK.out,JU v v64]at this;rw[hK.out];exact this
   have w62:=yy 15 (v:Int)
   have SL:Hid (Qz w 208 #[.agg #[.int .i64 L,.slice qo ys.length dap],.int .i64 A,.int .i64 (wdN 15 v)] (.tuple #[.int .u64 (slcX L ys A (wdN 15 v)),.int .i64 (slcE L ys A (wdN 15 v))])):=fun w0 h=>tL L qo ys dap A (wdN 15 v) w0 (hy.keep h) hfy (by omega) (by omega) (by omega) (by omega)
   have BK:Hid (∀w0,Qq 209 #[.int .i64 15,.int .i64 K,.int .u64 (slcX L ys A (wdN 15 v))] w0 (.tuple #[.int .u64 (bkX 15 v (slcX L ys A (wdN 15 v))),.bool (bkB 15 v (slcX L ys A (wdN 15 v)))])):=fun w0=>by
    have hs:slcX L ys A (wdN 15 v)<18446744073709551616:=by
     unfold slcX;split
     .have h1:=fg (Int.toNat (wdN 15 v:Int)) (fun k=>bitAt ys (Int.toNat (A:Int)+k));have h2:2^(Int.toNat (wdN 15 v:Int))<=2^62:=Nat.pow_le_pow_right (by decide) (by omega);omega
     .omega
    have:=Ow.rblock_c 15 K (slcX L ys A (wdN 15 v)) hs w0;rw[hK.out,JV v _ v64,JW v _ v64]at this;rw[hK.out];exact this
   have HD:Hid ((if slcE L ys A (wdN 15 v)=0/\bkB 15 v (slcX L ys A (wdN 15 v))=true then gA m L ys (CL.drop (q+1)) (A+wdN 15 v) (eW m ot (bkX 15 v (slcX L ys A (wdN 15 v))))else none)=O):=by
    have:=HO.out;rw[Ij CL q (by omega),<-hv.out,gA]at this;exact this
   have bB:bkX 15 v (slcX L ys A (wdN 15 v))<32768:=by
    unfold bkX;split
    .omega
    .have:=jY (15:Int).toNat (v:Int).toNat (slcX L ys A (wdN 15 v));have e:(15:Int).toNat=15:=rfl;rw[e]at this⊢;omega
   generalize bkX 15 v (slcX L ys A (wdN 15 v))=bb at *;generalize bkB 15 v (slcX L ys A (wdN 15 v))=ok at *;generalize slcX L ys A (wdN 15 v)=sx at *;generalize slcE L ys A (wdN 15 v)=se at *
   generalize wdN 15 (v:Int)=wd at *;clear HO;have x0:=X1.cell 0 rfl;have x5:=X1.cell 5 rfl;have x6:=X1.cell 6 rfl;go_wp2_with fail;refine mr (WD.out _) fun wa hb=>?_;replace X1:=X1.kept hb
   replace X2:=X2.kept hb;replace XC:=XC.keep hb;replace hown:=Ap.owns_below hown hb;replace hwr:=bg hwr hb;replace hbw:=Nat.le_trans hbw hb.size;clear hb x0 x5 x6 ce;have x5:=X1.cell 5 rfl
   have x6:=X1.cell 6 rfl;go_wp2_with fail;refine mr (SL.out _ hwr) fun wb hb=>?_;replace X1:=X1.kept hb;replace X2:=X2.kept hb;replace XC:=XC.keep hb;replace hown:=Ap.owns_below hown hb
   replace hwr:=bg hwr hb;replace hbw:=Nat.le_trans hbw hb.size;clear hb x5 x6;go_wp2_with fail;refine mr (BK.out _) fun wc hb=>?_;replace X1:=X1.kept hb;replace X2:=X2.kept hb
   replace XC:=XC.keep hb;replace hown:=Ap.owns_below hown hb;replace hwr:=bg hwr hb;replace hbw:=Nat.le_trans hbw hb.size;clear hb WD SL BK;by_cases hbad:se=0/\ok=true
   .obtain⟨rfl,rfl⟩:=hbad
    have HD2:Hid (gA m L ys (CL.drop (q+1)) (A+wd) (eW m ot bb)=O):=by
     have:=HD.out;rw[if_pos ⟨rfl,rfl⟩]at this;exact this
    clear HD;go_wp2
    go_loopw [3,13] (fun ov jv wr=>∃(t:Nat) (po:Option Addr) (pc:Nat),t<=15/\jv=.int .i64 t/\ov=.slice po (ot.length+t) pc/\ot.length+t<=m/\wr.ownsRow b 4 1 (.slice po (ot.length+t) pc) (ot.length+t) (bP (ot++Bit.bits bb t))/\aa wr w.heap.size [.int .i64 m,.int .i64 n,.int .i64 V,.int .i64 M,.slice ao xs.length cap,.int .i64 L,.slice qo ys.length dap,.slice so sn sc,.slice tO tn tc] 59/\aa wr (w.heap.size+1) [.int .i64 0,.slice none 0 0] 53/\Wd wr (some ⟨cb,co2,none⟩) CL/\b<=wr.heap.size/\Below w.heap.size w wr) (fun _ jv _=>15-(intOf jv).toNat)
    case atStart=>exact⟨0,oo,oc,by omega,rfl,rfl,hol,by rw[show ot++Bit.bits bb 0=ot by simp[Bit.bits]];exact hown,X1,X2,XC,hbw,hwr⟩
    case round=>
     obtain⟨t,po,pc,ht,rfl,rfl,htl,hown2,Y1,Y2,YC,hbw2,hwr2⟩:=hrel;clear X1 X2 XC hown hwr hbw;have y0:=Y1.cell 0 rfl;by_cases hgo:t<15/\ot.length+t<m
     .obtain⟨g1,g2⟩:=hgo;have g3:((ot.length+t:Nat):Int)<(m:Int):=by omega
      have t64:(t:Int)<64:=by omega
      have bb0:(0:Int)<=(bb:Int):=by omega
      have T:Hid ((((bb:Int)/2^t).tmod 2==1)=bb.testBit t):=s_ bb t
      go_wp2_with (at_builtin;rw[T.out];refine Ap.wpList_append_u rfl _ _ 73 rfl b 4 i0 (.bool false) 1 underlying73 hi hz0 hz1 hz2 rfl _ (ot.length+t) (bP (ot++Bit.bits bb t)) rfl (hown2.alloc _) (some ⟨wr.heap.size,0,none⟩) 1 1 [.bool (bb.testBit t)] rfl rfl ?e1 ?e2 ?e3 ?e4 ?e5 ?_)
      case e1=>exact fun _=>⟨_,rfl,fun j u hj=>by
       match j,hj with
       | 0,hj=>simp at hj;subst hj;simp[Addr.add]⟩
      case e2=>intro u hu;simp at hu;subst hu;rfl
      case e3=>unfold maxLen;omega
      case e4=>omega
      case e5=>simp;omega
      intro po2 pc2 w4 own4 hle4 hB4;rw[I5,List.append_assoc,<-Jt]at own4;have hA4:=below_alloc wr (.cells #[.bool (bb.testBit t)] 4);have Y1':=(Y1.kept hA4).keep hB4 l1
      have Y2':=(Y2.kept hA4).keep hB4 l2;have hw4:=(bg hwr2 hA4).trans (hB4.mono (by omega));have YC':=yA YC hcb hA4 hB4
      have hs4:b<=w4.heap.size:=by
       have h1:=hB4.size;simp at h1;omega
      have HOW:Hid (w4.ownsRow b 4 1 (.slice po2 (ot.length+t+1) pc2) (ot.length+t+1) (bP (ot++Bit.bits bb (t+1)))):=own4;clear own4 hown2 Y1 Y2 YC hwr2 hbw2 hA4 hB4 y0;go_wp2
      exact⟨⟨t+1,po2,pc2,by omega,by go_num,rfl,by omega,HOW.out,Y1',Y2',YC',hs4,hw4⟩,by simp only[intOf];omega⟩
     .have et:t=min 15 (m-ot.length):=by omega
      have eb:eW m ot bb=ot++Bit.bits bb t:=by unfold eW;rw[<-et]
      have el:(eW m ot bb).length=ot.length+t:=by rw[eb,List.length_append,oL]
      have HOW:Hid (wr.ownsRow b 4 1 (.slice po (eW m ot bb).length pc) (eW m ot bb).length (bP (eW m ot bb))):=by
       show wr.ownsRow b 4 1 (.slice po (eW m ot bb).length pc) (eW m ot bb).length (bP (eW m ot bb));rw[el,eb];exact hown2
      have EL:Hid ((eW m ot bb).length=ot.length+t):=el;have hA2:A+wd<=62*(q+1):=by omega
      clear hown2 eb el et;by_cases g1:t<15
      .have g2:¬((ot.length+t:Nat):Int)<(m:Int):=by omega
       clear hgo;go_wp2;exact⟨⟨q+1,A+wd,eW m ot bb,po,pc,by omega,by go_num,by go_num,hA2,by rw[EL.out],by rw[EL.out];exact htl,HOW.out,HD2,Y1,Y2,YC,hbw2,hwr2⟩,by simp only[intOf];omega⟩
      .have g2:¬(t:Int)<15:=by omega
       clear hgo;go_wp2;exact⟨⟨q+1,A+wd,eW m ot bb,po,pc,by omega,by go_num,by go_num,hA2,by rw[EL.out],by rw[EL.out];exact htl,HOW.out,HD2,Y1,Y2,YC,hbw2,hwr2⟩,by simp only[intOf];omega⟩
   .have HN:Hid (O=none):=by
     have:=HD.out;rw[if_neg hbad]at this;exact this.symm
    have y0:=X2.cell 0 rfl;have y1:=X2.cell 1 rfl;have f0:=X2.frozen 0;have f1:=X2.frozen 1;have hC2:=(X2.set 0 (.int .i64 0)).set 1 (.slice none 0 0)
    have HB:=pB (pB hwr (w.heap.size+1) 0 (.int .i64 0) (Nat.le_succ _)) (w.heap.size+1) 1 (.slice none 0 0) (Nat.le_succ _);have k0:=hC2.cell 0 rfl;have k1:=hC2.cell 1 rfl;by_cases s0:se=0
    .have o0:ok=false:=by cases ok<;>simp_all
     subst s0 o0;clear hbad HD;go_wp2
     exact bodyPost_ret (v:=.agg #[.int .i64 0,.slice none 0 0]) (by simp[results,Tryz.results190,go_sem,k0,k1]) rfl ⟨none,0,by rw[HN.out];rfl,by rw[HN.out];exact cE _ _,by rw[HN.out];exact fun i=>by unfold gt;simp[rwX],by rw[HN.out];exact Nat.le_refl _,HB⟩
    .have s1:(se != 0)=true:=by simp[s0]
     clear hbad HD;go_wp2
     exact bodyPost_ret (v:=.agg #[.int .i64 0,.slice none 0 0]) (by simp[results,Tryz.results190,go_sem,k0,k1]) rfl ⟨none,0,by rw[HN.out];rfl,by rw[HN.out];exact cE _ _,by rw[HN.out];exact fun i=>by unfold gt;simp[rwX],by rw[HN.out];exact Nat.le_refl _,HB⟩
  .obtain rfl:q=n:=by omega
   have hlt2:¬(q:Int)<(q:Int):=by omega
   have ON:O=some ot:=by
    have:=HO.out;rw[List.drop_eq_nil_of_le (by omega)]at this;exact this.symm
   have FR:Hid (∀w0:World,Bl w0 oo ot->Calls prog 33 #[.slice oo ot.length oc] w0 fun e w'=>∃g,e=.returned (.tuple #[.agg #[.int .i64 ot.length,.slice (some ⟨g,0,none⟩) (aC ot).length (aC ot).length],.int .i64 0])/\w0.heap.size<=g/\Own w' g (aC ot)/\Below w0.heap.size w0 w'):=fun w0 h=>by
    refine(lh oo ot oc _ w0 h (by omega) rfl).mono ?_;rintro e w' ⟨g,rfl,hg,hOw,hb⟩;rw[mc]at hOw;have e5:(aC ot).length=(ot.length+63)/64:=cM _ _;exact⟨g,by rw[e5],hg,hOw,hb⟩
   have HBl:=rX hown;have hfit:aA (aC ot):=cY _ _;obtain⟨Z,hZ⟩:∃Z,Hid (Z=aC ot):=⟨_,rfl⟩
   have EN:Hid (rwN O=ot.length/\rwX O=Z):=by
    show _/\_;rw[ON,hZ.out];exact⟨rfl,rfl⟩
   rw[<-hZ.out]at FR hfit;clear ON HO;clear hown;go_wp2_with fail;refine(FR.out _ HBl).mono ?_;rintro e w2 ⟨g,rfl,hg,hOw,hb⟩;replace X2:=X2.kept hb;replace hwr:=bg hwr hb;have l3:=X2.lt
   have bA:=below_alloc w2 (.cells #[.int .i64 ot.length,.slice (some ⟨g,0,none⟩) Z.length Z.length] 53);replace X2:=X2.kept bA;replace hwr:=bg hwr bA;have hOw2:=hOw.keep bA;have y0:=X2.cell 0 rfl
   have y1:=X2.cell 1 rfl;have f0:=X2.frozen 0;have f1:=X2.frozen 1;have hC2:=(X2.set 0 (.int .i64 ot.length)).set 1 (.slice (some ⟨g,0,none⟩) Z.length Z.length)
   have HB:=pB (pB hwr (w.heap.size+1) 0 (.int .i64 ot.length) (Nat.le_succ _)) (w.heap.size+1) 1 (.slice (some ⟨g,0,none⟩) Z.length Z.length) (Nat.le_succ _);have ng:g≠w.heap.size+1:=by omega
   have HW:=((hOw2.set_other (a:=⟨w.heap.size+1,0,none⟩) ng (.int .i64 ot.length)).set_other (a:=⟨w.heap.size+1,1,none⟩) ng (.slice (some ⟨g,0,none⟩) Z.length Z.length)).wd;have k0:=hC2.cell 0 rfl
   have k1:=hC2.cell 1 rfl;clear hb FR HBl bA l3 l1 l2 hg hbw;go_wp2
   exact bodyPost_ret (v:=.agg #[.int .i64 ot.length,.slice (some ⟨g,0,none⟩) Z.length Z.length]) (by simp[results,Tryz.results190,go_sem,k0,k1]) rfl ⟨some ⟨g,0,none⟩,Z.length,by rw[EN.out.1,EN.out.2],by rw[EN.out.2];exact HW,by rw[EN.out.2];exact hfit,by rw[EN.out.2];exact Nat.le_refl _,HB⟩
end Go.Proofs.YtleegaihbgbcjabGreatDoor
