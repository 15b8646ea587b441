import Derived.Laws.BitsAllLaws
import Derived.Laws.MathBits
import Derived.Lib.Tables
import Derived.RowKit
import Derived.Laws.BitsLemmas
import Derived.Test.YtleegaihbgbcjabGreatDoorRows
import Derived.WalkKit
import Derived.WalkSmall
import Derived.OwnWalk
import Derived.Lib.SlBytesConst
import Derived.Laws.BytesArg
import Derived.WalkSpells
import Derived.WalkLawsBesides
set_option linter.unusedVariables false
set_option linter.unusedSimpArgs false
set_option maxRecDepth 100000
set_option maxHeartbeats 16000000
open Go.Proofs.Tryz
namespace Go.Proofs.YtleegaihbgbcjabGreatDoor
open Go.RowKit
theorem bg{u v w:World}(h:Below u.heap.size u v)(g:Below v.heap.size v w):Below u.heap.size u w:=h.trans (g.mono h.size)
abbrev Qq(f:FuncId)(a:Array Value)(w:World)(v:Value):Prop:=Calls prog f a w fun e w'=>e=.returned v/\Below w.heap.size w w'
abbrev Qx(f:FuncId)(a:Array Value)(w:World)(v:Value):Prop:=Calls prog f a w fun e w'=>e=.returned v/\w'=w
abbrev Qz(w:World)(f:FuncId)(a:Array Value)(v:Value):Prop:=∀w0,Below w.heap.size w w0->Qq f a w0 v
theorem mr{P:Program}{f:FuncId}{a:Array Value}{w:World}{v:Value}{R:World->Prop}{K:Ending->World->Prop}(h:Calls P f a w fun e w'=>e=.returned v/\R w')(k:∀w',R w'->K (.returned v) w'):Calls P f a w K:=h.mono fun _ _ h=>h.1 ▸ k _ h.2
end Go.Proofs.YtleegaihbgbcjabGreatDoor
namespace Go.Proofs.YtleegaihbgbcjabGreatDoor.Num
theorem ar{α:Type}{xs:List α}{i:Nat}(h:i<xs.toArray.size):xs.toArray[i]=xs[i]'(by simpa using h):=rfl
theorem an{α:Type}{a:α}{ls:List α}{h:0<(a::ls).length}:(a::ls)[0]=a:=rfl
theorem am{α:Type}{a:α}{ls:List α}{i:Nat}{h:i+1<(a::ls).length}:(a::ls)[i+1]=ls[i]'(Nat.lt_of_succ_lt_succ h):=rfl
theorem ah{α:Type}(l:List α)(i:Nat)(a:α):l.toArray.setIfInBounds i a=(l.set i a).toArray:=List.setIfInBounds_toArray ..
theorem aj{α:Type}{a b:α}{l:List α}:(a::l).set 0 b=b::l:=rfl
theorem ai{α:Type}{a b:α}{l:List α}{n:Nat}:(a::l).set (n+1) b=a::l.set n b:=rfl
def cnt(x:Nat):Nat->Nat
 | 0=>0
 | n+1=>cnt x n+x/2^n%2
theorem dL(x n:Nat):cnt x n<=n:=by
 induction n with
 | zero=>exact Nat.le_refl _
 | succ n ih=>simp only[cnt];omega
theorem pk(x m n:Nat):cnt x (m+n)=cnt x m+cnt (x/2^m) n:=by
 induction n with
 | zero=>simp[cnt]
 | succ n ih=>
  rw[<-Nat.add_assoc];simp only[cnt];rw[ih,Nat.pow_add,Nat.div_div_eq_div_mul];omega
theorem xI(x m i:Nat)(h:i<m):x%2^m/2^i%2=x/2^i%2:=by
 have e:2^m=2^i*(2*2^(m-i-1)):=by
  rw[<-Nat.mul_assoc,<-Nat.pow_succ,<-Nat.pow_add];congr 1;omega
 rw[e,Nat.mod_mul_right_div_self,Nat.mod_mul_right_mod]
theorem pm(x m n:Nat)(h:n<=m):cnt (x%2^m) n=cnt x n:=by
 induction n with
 | zero=>rfl
 | succ n ih=>
  simp only[cnt];rw[ih (by omega),xI x m n (by omega)]
theorem xk(x m n:Nat)(hx:x<2^m)(h:m<=n):cnt x n=cnt x m:=by
 obtain⟨k,rfl⟩:∃k,n=m+k:=⟨n-m,by omega⟩;rw[pk,Nat.div_eq_of_lt hx]
 have z:∀k,cnt 0 k=0:=by
  intro k;induction k with
  | zero=>rfl
  | succ k ih=>simp[cnt,ih]
 rw[z];omega
theorem Iw(x m n:Nat)(h:m<=n):cnt (x%2^m) n=cnt x m:=by
 rw[xk (x%2^m) m n (Nat.mod_lt _ (Nat.two_pow_pos m)) h,pm x m m (Nat.le_refl _)]
theorem pn(x n m:Nat)(hx:x<2^m)(h:n<=m):cnt (2^m-1-x) n=n-cnt x n:=by
 induction n with
 | zero=>simp[cnt]
 | succ n ih=>
  have b:(2^m-1-x)/2^n%2=1-x/2^n%2:=by
   have t:=Nat.testBit_two_pow_sub_succ hx n;rw[show 2^m-(x+1)=2^m-1-x by omega]at t;rw[Nat.testBit_eq_decide_div_mod_eq,Nat.testBit_eq_decide_div_mod_eq]at t;have d:decide (n<m)=true:=by simp;omega
   rw[d,Bool.true_and]at t;by_cases c:x/2^n%2=1
   .simp[c]at t;omega
   .simp[c]at t;omega
  have l:=dL x n;simp only[cnt];rw[ih (by omega),b];omega
/-! ### the count by halves -/
theorem nE(a m c:Nat)(hc:c<256):a&&&(m*256+c)=(a/256&&&m)*256+(a%256&&&c):=by
 have d:(a&&&(m*256+c))/2^8=a/2^8&&&(m*256+c)/2^8:=Nat.and_div_two_pow;have r:(a&&&(m*256+c))%2^8=a%2^8&&&(m*256+c)%2^8:=Nat.and_mod_two_pow
 have e1:(m*256+c)/2^8=m:=by omega
 have e2:(m*256+c)%2^8=c:=by omega
 rw[e1]at d;rw[e2]at r;simp only[show(2:Nat)^8=256 from rfl]at d r;omega
def f_(c:Nat):Nat->Nat
 | 0=>0
 | k+1=>f_ c k*256+c
def s1(k x:Nat):Nat:=(x/2&&&f_ 85 k)+(x&&&f_ 85 k)
def s2(k x:Nat):Nat:=(x/4&&&f_ 51 k)+(x&&&f_ 51 k)
def s3(k x:Nat):Nat:=(x/16+x)&&&f_ 15 k
def b1(x:Nat):Nat:=(x/2&&&85)+(x&&&85)
def b2(x:Nat):Nat:=(x/4&&&51)+(x&&&51)
theorem Fc:∀b:Fin 512,(b.val/2&&&85)=(b.val%256/2&&&85):=by decide +kernel
theorem Fb:∀b:Fin 1024,(b.val/4&&&51)=(b.val%256/4&&&51):=by decide +kernel
theorem rM:∀b:Fin 256,b1 b.val<256/\b2 (b1 b.val)%16<=4/\b2 (b1 b.val)/16<=4/\(b2 (b1 b.val)/16+b2 (b1 b.val))%16=cnt b.val 8:=by decide +kernel
theorem Ae(k x:Nat):s1 (k+1) x=s1 k (x/256)*256+b1 (x%256):=by
 unfold s1 b1;rw[f_,nE _ _ _ (by omega),nE _ _ _ (by omega)];have l:=Fc ⟨x%512,by omega⟩;simp only at l
 rw[show x/2%256=x%512/2 by omega,l,show x%512%256=x%256 by omega,show x/2/256=x/256/2 by omega];omega
theorem Ac(k x:Nat):s2 (k+1) x=s2 k (x/256)*256+b2 (x%256):=by
 unfold s2 b2;rw[f_,nE _ _ _ (by omega),nE _ _ _ (by omega)];have l:=Fb ⟨x%1024,by omega⟩;simp only at l
 rw[show x/4%256=x%1024/4 by omega,l,show x%1024%256=x%256 by omega,show x/4/256=x/256/4 by omega];omega
theorem tz(k x:Nat):s2 (k+1) (s1 (k+1) x)=s2 k (s1 k (x/256))*256+b2 (b1 (x%256)):=by
 have h:=(rM ⟨x%256,by omega⟩).1;simp only at h;rw[Ac,Ae]
 rw[show(s1 k (x/256)*256+b1 (x%256))/256=s1 k (x/256)by omega,show(s1 k (x/256)*256+b1 (x%256))%256=b1 (x%256)by omega]
theorem Ad(k x:Nat):s2 k (s1 k x)%16<=4:=by
 cases k with
 | zero=>simp[s1,s2,f_]
 | succ k=>
  have h:=(rM ⟨x%256,by omega⟩).2.1;simp only at h;rw[tz];omega
theorem jF(k x:Nat):s3 (k+1) (s2 (k+1) (s1 (k+1) x))=s3 k (s2 k (s1 k (x/256)))*256+cnt x 8:=by
 have hl:=Ad k (x/256);obtain⟨_,g1,g2,g3⟩:=rM ⟨x%256,by omega⟩;simp only at g1 g2 g3;rw[tz];generalize s2 k (s1 k (x/256))=y at *;generalize b2 (b1 (x%256))=z at *
 have c8:cnt (x%256) 8=cnt x 8:=pm x 8 8 (Nat.le_refl _);unfold s3;rw[f_,nE _ _ _ (by omega)];rw[show((y*256+z)/16+(y*256+z))/256=y/16+y by omega]
 rw[show((y*256+z)/16+(y*256+z))%256=y%16*16+(z/16+z)by omega];have m:(y%16*16+(z/16+z))&&&15=(y%16*16+(z/16+z))%16:=Nat.and_two_pow_sub_one_eq_mod _ 4
 rw[m,show(y%16*16+(z/16+z))%16=(z/16+z)%16 by omega,g3,c8]
theorem rB(n a b c:Nat)(h:n=a*c+b)(hb:b<c):n/c=a:=by
 subst h;rw[Nat.mul_comm,Nat.mul_add_div (by omega),Nat.div_eq_of_lt hb,Nat.add_zero]
theorem GZ(p0 p1 p2 p3 p4 p5 p6 p7:Nat):
  (((((((p7*256+p6)*256+p5)*256+p4)*256+p3)*256+p2)*256+p1)*256+p0)+((((((p7*256+p6)*256+p5)*256+p4)*256+p3)*256+p2)*256+p1)
   =(((((p7*256+(p6+p7))*256+(p5+p6))*256+(p4+p5))*256+(p3+p4))*256+(p2+p3))*65536+((p1+p2)*256+(p0+p1)):=by
 omega
theorem GY(p0 p1 p2 p3 p4 p5 p6 p7:Nat):
  ((((((p7*256+(p6+p7))*256+(p5+p6))*256+(p4+p5))*256+(p3+p4))*256+(p2+p3))*65536+((p1+p2)*256+(p0+p1)))+(((((p7*256+(p6+p7))*256+(p5+p6))*256+(p4+p5))*256+(p3+p4))*256+(p2+p3))
   =(((p7*256+(p6+p7))*256+(p5+p6+p7))*256+(p4+p5+p6+p7))*4294967296+((((p3+p4+p5+p6)*256+(p2+p3+p4+p5))*256+(p1+p2+p3+p4))*256+(p0+p1+p2+p3)):=by
 omega
theorem GX(p0 p1 p2 p3 p4 p5 p6 p7:Nat)(h0:p0<=8)(h1:p1<=8)(h2:p2<=8)(h3:p3<=8)(h4:p4<=8)(h5:p5<=8)(h6:p6<=8)(h7:p7<=8)
  (y:Nat) (hy:y=((((((p7*256+p6)*256+p5)*256+p4)*256+p3)*256+p2)*256+p1)*256+p0)
  (y1 y2 y3:Nat) (e1:y1=y+y/256) (e2:y2=y1+y1/65536) (e3:y3=y2+y2/4294967296):
  y1<18446744073709551616/\y2<18446744073709551616/\y3<9223372036854775808/\y3%128=p0+p1+p2+p3+p4+p5+p6+p7:=by
 have d1:=rB y _ p0 256 hy (by omega);rw[d1,hy,GZ]at e1;have d2:=rB y1 _ _ 65536 e1 (by omega);rw[d2,e1,GY]at e2;have d3:=rB y2 _ _ 4294967296 e2 (by omega);rw[d3]at e3
 have t:∃z,y3=z*256+(p0+p1+p2+p3+p4+p5+p6+p7):=by
  refine⟨((p7*256+(p6+p7))*256+(p5+p6+p7))*4294967296+(p4+p5+p6+p7)*16777216+(((p3+p4+p5+p6)*256+(p2+p3+p4+p5))*256+(p1+p2+p3+p4))+((p7*256+(p6+p7))*256+(p5+p6+p7)),?_⟩
  rw[e3,e2];clear h0 h1 h2 h3 h4 h5 h6 h7 hy e1 e2 e3 d1 d2 d3;omega
 obtain⟨z,hz⟩:=t;refine⟨?_,?_,?_,?_⟩
 .clear hz e2 e3 hy d1 d2 d3;omega
 .clear hz e1 e3 hy d1 d2 d3;omega
 .clear hz e1 hy d1 d2 d3;omega
 .clear e1 e2 e3 hy d1 d2 d3;omega
theorem Iy(x:Nat):cnt x 64=cnt x 8+cnt (x/256) 8+cnt (x/256/256) 8+cnt (x/256/256/256) 8+cnt (x/256/256/256/256) 8+cnt (x/256/256/256/256/256) 8+cnt (x/256/256/256/256/256/256) 8+cnt (x/256/256/256/256/256/256/256) 8:=by
 have s:∀y n,cnt y (8+n)=cnt y 8+cnt (y/256) n:=fun y n=>pk y 8 n;rw[show(64:Nat)=8+(8+(8+(8+(8+(8+(8+8))))))by rfl];rw[s,s,s,s,s,s,s];omega
theorem Ab(x:Nat):s3 8 (s2 8 (s1 8 x))=((((((cnt (x/256/256/256/256/256/256/256) 8*256+cnt (x/256/256/256/256/256/256) 8)*256+cnt (x/256/256/256/256/256) 8)*256+cnt (x/256/256/256/256) 8)*256+cnt (x/256/256/256) 8)*256+cnt (x/256/256) 8)*256+cnt (x/256) 8)*256+cnt x 8:=by
 rw[jF,jF,jF,jF,jF,jF,jF,jF];simp[s3,f_]
theorem Cl(x y:Nat)(hy:y=s3 8 (s2 8 (s1 8 x)))(y1 y2 y3:Nat)(e1:y1=y+y/256)(e2:y2=y1+y1/65536)(e3:y3=y2+y2/4294967296):
  y1<18446744073709551616/\y2<18446744073709551616/\y3<9223372036854775808/\y3%128=cnt x 64:=by
 rw[Ab]at hy;rw[Iy];exact GX _ _ _ _ _ _ _ _ (dL _ _) (dL _ _) (dL _ _) (dL _ _) (dL _ _) (dL _ _) (dL _ _) (dL _ _) y hy y1 y2 y3 e1 e2 e3
/-! ### the answers,as numbers -/
def maskI(n:Int):Int:=((2^(min n.toNat 64)-1:Nat):Int)
def fB(x:Int):Int:=(cnt x.toNat 64:Int)
def dH(x n:Int):Int:=(cnt x.toNat (min n.toNat 64):Int)
def selGo(x:Nat)(k:Int):Nat->Nat
 | 0=>64
 | f+1=>if x/2^(63-f)%2=1/\(cnt x (63-f):Int)=k then 63-f else selGo x k f
def jf(x k:Int):Int:=(selGo x.toNat k 64:Int)
def bI(x:Int):Int:=(Go.bitLen x.toNat:Int)
theorem fu(m:Nat)(h:m<64):(2:Nat)^m<18446744073709551616:=Nat.pow_lt_pow_right (by decide) h
theorem mP(n:Int):0<=maskI n/\maskI n<18446744073709551616:=by
 unfold maskI;have h:(2:Nat)^(min n.toNat 64)<=2^64:=Nat.pow_le_pow_right (by decide) (Nat.min_le_right _ _);have:=Nat.two_pow_pos (min n.toNat 64);omega
theorem EK(n:Int)(h:n<=0):maskI n=0:=by
 unfold maskI;rw[show n.toNat=0 by omega];rfl
theorem EO(n:Int):IntKind.u64.wrap (IntKind.u64.wrap (2^min n.toNat 64)-1)=maskI n:=by
 unfold maskI;rw[IntKind.wrap_u64,IntKind.wrap_u64];have p:=Nat.two_pow_pos (min n.toNat 64);have e:(2:Int)^min n.toNat 64=((2^min n.toNat 64:Nat):Int):=by simp
 rw[e];by_cases c:min n.toNat 64=64
 .rw[c];decide
 .have l:=fu (min n.toNat 64) (by omega);generalize (2:Nat)^min n.toNat 64=y at *;omega
theorem jD(x y:Int)(h1:0<=x)(h2:x<18446744073709551616)(h3:0<=y)(h4:y<18446744073709551616):bits .and .u64 x y=((x.toNat&&&y.toNat:Nat):Int):=u64_and x y h1 h2 h3 h4
theorem nD(x n:Int)(h1:0<=x)(h2:x<18446744073709551616):bits .and .u64 x (maskI n)=((x.toNat%2^min n.toNat 64:Nat):Int):=by
 rw[jD x _ h1 h2 (mP n).1 (mP n).2];unfold maskI;rw[Int.toNat_natCast,Nat.and_two_pow_sub_one_eq_mod]
theorem J4(x n:Int)(h1:0<=x)(h2:x<18446744073709551616):0<=bits .and .u64 x (maskI n)/\bits .and .u64 x (maskI n)<18446744073709551616:=by
 rw[nD x n h1 h2];have:=Nat.mod_le x.toNat (2^min n.toNat 64);omega
theorem Cm(x n:Int)(h1:0<=x)(h2:x<18446744073709551616):fB (bits .and .u64 x (maskI n))=dH x n:=by
 unfold fB dH;rw[nD x n h1 h2,Int.toNat_natCast,Iw _ _ _ (Nat.min_le_right _ _)]
theorem kQ(x:Int)(i:Nat)(h1:0<=x)(h2:x<18446744073709551616):bits .and .u64 (x/2^i) 1=((x.toNat/2^i%2:Nat):Int):=by
 have e:x/2^i=((x.toNat/2^i:Nat):Int):=by
  rw[Int.natCast_ediv,Int.toNat_of_nonneg h1];simp
 have l:x.toNat/2^i<=x.toNat:=Nat.div_le_self _ _;rw[e];clear e;generalize x.toNat/2^i=q at *;rw[jD _ 1 (by omega) (by omega) (by omega) (by omega),Int.toNat_natCast]
 rw[show(1:Int).toNat=1 from rfl,nat_mask1]
theorem JE(x:Int)(i:Nat)(h1:0<=x):x/2^i%2=((x.toNat/2^i%2:Nat):Int):=by
 rw[Int.natCast_emod,Int.natCast_ediv,Int.toNat_of_nonneg h1];simp
/-! ### Select -/
theorem tq(x:Nat)(k:Int)(i:Nat)(hi:i<64)(hb:x/2^i%2=1)(hk:(cnt x i:Int)=k):selGo x k (64-i)=i:=by
 obtain⟨f,hf⟩:∃f,64-i=f+1:=⟨63-i,by omega⟩;rw[hf,selGo,show 63-f=i by omega,if_pos ⟨hb,hk⟩]
theorem pU(x:Nat)(k:Int)(i:Nat)(hi:i<64)(h:¬(x/2^i%2=1/\(cnt x i:Int)=k)):selGo x k (64-i)=selGo x k (64-(i+1)):=by
 obtain⟨f,hf⟩:∃f,64-i=f+1:=⟨63-i,by omega⟩;rw[hf,selGo,show 63-f=i by omega,if_neg h,show 64-(i+1)=f by omega]
theorem Iv(x i d:Nat):cnt x i<=cnt x (i+d):=by
 rw[pk];omega
theorem Cu(x i j:Nat)(hi:x/2^i%2=1)(hj:x/2^j%2=1)(h:cnt x i=cnt x j):i=j:=by
 have s:∀a b,x/2^a%2=1->a<b->cnt x a<cnt x b:=by
  intro a b ha hab;obtain⟨d,rfl⟩:∃d,b=(a+1)+d:=⟨b-(a+1),by omega⟩;have m:=Iv x (a+1) d;have e:cnt x (a+1)=cnt x a+x/2^a%2:=rfl;omega
 by_cases c1:i<j
 .have:=s i j hi c1;omega
 .by_cases c2:j<i
  .have:=s j i hj c2;omega
  .omega
theorem tt(x:Nat)(k:Int)(i:Nat)(hb:x/2^i%2=1)(hk:(cnt x i:Int)=k):∀d j,i=j+d->i<64->selGo x k (64-j)=i:=by
 intro d;induction d with
 | zero=>intro j hj hi;rw[show j=i by omega];exact tq x k i hi hb hk
 | succ d ih=>
  intro j hj hi;rw[pU x k j (by omega) ?_]
  .exact ih (j+1) (by omega) hi
  .intro⟨g1,g2⟩;have:=Cu x i j hb g1 (by omega);omega
/-! ### Len -/
theorem iM(x:Nat)(m:Nat)(h:x<2^m):Go.bitLen x<=m:=by
 by_cases c:x=0
 .subst c;exact Nat.zero_le _
 .have g:=(Go.bitLen_spec x).2 c;have:=Nat.lt_of_le_of_lt g h;have:=(Nat.pow_lt_pow_iff_right (by decide:1<2)).1 this;omega
theorem qW(x i:Nat)(h:x<2^(i+1))(hb:x/2^i%2=1):Go.bitLen x=i+1:=by
 have p:=Nat.two_pow_pos i;have l:=iM x (i+1) h
 have g:2^i<=x:=by
  by_cases c:2^i<=x
  .exact c
  .rw[Nat.div_eq_of_lt (by omega)]at hb;omega
 have s:=(Go.bitLen_spec x).1;have:=(Nat.pow_lt_pow_iff_right (by decide:1<2)).1 (Nat.lt_of_le_of_lt g s);omega
theorem vB(x i:Nat)(h:x<2^(i+1))(hb:¬x/2^i%2=1):x<2^i:=by
 have p:=Nat.two_pow_pos i;by_cases c:x<2^i
 .exact c
 .exfalso;have e:2^(i+1)=2^i*2:=Nat.pow_succ ..
  have d:x/2^i=1:=by
   apply Nat.div_eq_of_lt_le
   .omega
   .omega
  omega
theorem yT:∀n:Fin 256,((Lib.len8tab[n.val]?).getD 0).toNat=Go.bitLen n.val:=by decide +kernel
theorem td(n:Nat)(h:n<Lib.len8tab.size):Lib.len8tab[n].toNat=Go.bitLen n:=by
 have h':n<256:=by rw[Lib.len8tab_size]at h;exact h
 have:=yT ⟨n,h'⟩;simpa [h]using this
theorem Fv(x y s:Nat)(hy:y=x/2^s)(h:1<=y):Go.bitLen x=s+Go.bitLen y:=by
 subst hy;exact Go.bitLen_shift x s (by omega)
/-! ### the count by halves,as the walk spells it -/
theorem Cq(x:Nat)(h:x<18446744073709551616):IntKind.u64.wrap (bits .and .u64 ((x:Int)/2) 6148914691236517205+bits .and .u64 (x:Int) 6148914691236517205)=((s1 8 x:Nat):Int)/\s1 8 x<18446744073709551616:=by
 have r:f_ 85 8=6148914691236517205:=by decide +kernel
 have l1:x/2&&&6148914691236517205<=6148914691236517205:=Nat.and_le_right;have l2:x&&&6148914691236517205<=6148914691236517205:=Nat.and_le_right;unfold s1
 rw[r,show(x:Int)/2=((x/2:Nat):Int)by omega,jD _ _ (by omega) (by omega) (by omega) (by omega),jD _ _ (by omega) (by omega) (by omega) (by omega)]
 simp only[Int.toNat_natCast,show((6148914691236517205:Int)).toNat=6148914691236517205 from rfl];rw[IntKind.wrap_u64];omega
theorem Cp(x:Nat)(h:x<18446744073709551616):IntKind.u64.wrap (bits .and .u64 ((x:Int)/4) 3689348814741910323+bits .and .u64 (x:Int) 3689348814741910323)=((s2 8 x:Nat):Int)/\s2 8 x<=7378697629483820646:=by
 have r:f_ 51 8=3689348814741910323:=by decide +kernel
 have l1:x/4&&&3689348814741910323<=3689348814741910323:=Nat.and_le_right;have l2:x&&&3689348814741910323<=3689348814741910323:=Nat.and_le_right;unfold s2
 rw[r,show(x:Int)/4=((x/4:Nat):Int)by omega,jD _ _ (by omega) (by omega) (by omega) (by omega),jD _ _ (by omega) (by omega) (by omega) (by omega)]
 simp only[Int.toNat_natCast,show((3689348814741910323:Int)).toNat=3689348814741910323 from rfl];rw[IntKind.wrap_u64];omega
theorem Co(x:Nat)(h:x<=7378697629483820646):bits .and .u64 (IntKind.u64.wrap ((x:Int)/16+(x:Int))) 1085102592571150095=((s3 8 x:Nat):Int):=by
 have r:f_ 15 8=1085102592571150095:=by decide +kernel
 unfold s3;rw[r,IntKind.wrap_u64,show((x:Int)/16+(x:Int))%18446744073709551616=((x/16+x:Nat):Int)by omega,jD _ _ (by omega) (by omega) (by omega) (by omega)]
 simp only[Int.toNat_natCast,show((1085102592571150095:Int)).toNat=1085102592571150095 from rfl]
theorem pK(n:Int)(h0:0<=n)(h1:n<2^63):IntKind.i64.wrap n=n:=by rw[IntKind.wrap_i64];omega
theorem Fa(y:Nat)(h:y<9223372036854775808):bits .and .i64 (y:Int) 127=((y%128:Nat):Int):=by
 have m:=bits_mask .i64 63 (by decide) pK 7 (by decide) (y:Int) (by omega) (by omega);have e:((2:Int)^7-1)=127:=by decide
 have e2:((2:Int)^7)=128:=by decide
 rw[e,e2]at m;rw[m];omega
theorem ry(y z c:Nat)(k:Int)(hk:k=(c:Int))(e:y+y/c=z)(h:z<18446744073709551616):IntKind.u64.wrap ((y:Int)+(y:Int)/k)=(z:Int):=by
 subst hk;rw[IntKind.wrap_u64,<-Int.natCast_ediv,<-Int.natCast_add,e];omega
theorem Cn(x:Nat)(h:x<18446744073709551616)(a b c d e f:Int)
  (ha:a=IntKind.u64.wrap (bits .and .u64 ((x:Int)/2) 6148914691236517205+bits .and .u64 (x:Int) 6148914691236517205))
  (hb:b=IntKind.u64.wrap (bits .and .u64 (a/4) 3689348814741910323+bits .and .u64 a 3689348814741910323))
  (hc:c=bits .and .u64 (IntKind.u64.wrap (b/16+b)) 1085102592571150095)
  (hd:d=IntKind.u64.wrap (c+c/256)) (he:e=IntKind.u64.wrap (d+d/65536)) (hf:f=IntKind.u64.wrap (e+e/4294967296)):
  bits .and .i64 (Go.RowKit.wrap64 f) 127=((cnt x 64:Nat):Int):=by
 have p1:=Cq x h;rw[p1.1]at ha;subst ha;have p2:=Cp _ p1.2;rw[p2.1]at hb;subst hb;rw[Co _ p2.2]at hc;have q:=Cl x _ rfl _ _ _ rfl rfl rfl;generalize s3 8 (s2 8 (s1 8 x))=y at hc q;subst hc
 generalize e1:y+y/256=y1 at q;generalize e2:y1+y1/65536=y2 at q;generalize e3:y2+y2/4294967296=y3 at q;obtain⟨q1,q2,q3,q4⟩:=q;rw[ry y y1 256 256 rfl e1 q1]at hd;subst hd
 rw[ry y1 y2 65536 65536 rfl e2 q2]at he;subst he;rw[ry y2 y3 4294967296 4294967296 rfl e3 (by omega)]at hf;subst hf
 have wr:Go.RowKit.wrap64 (y3:Int)=(y3:Int):=by
  unfold Go.RowKit.wrap64;omega
 rw[wr,Fa y3 q3,q4]
theorem kF(x y:Int)(c:Int)(s:Nat)(hc:c=(s:Int))(hs:s<=56)(hy:y.toNat=x.toNat/2^s)(h1:1<=y.toNat)(hb:y.toNat<Lib.len8tab.size):
  Go.RowKit.wrap64 (c+Go.RowKit.wrap64 ((Lib.len8tab[y.toNat].toNat:Nat):Int))=bI x:=by
 have h8:y.toNat<256:=by rw[Lib.len8tab_size]at hb;exact hb
 have l:=Go.bitLen_le8 y.toNat h8;unfold bI;rw[td y.toNat hb,Fv x.toNat y.toNat s hy h1,hc];unfold Go.RowKit.wrap64;omega
theorem Fx(x:Int)(hb:x.toNat<Lib.len8tab.size):
  Go.RowKit.wrap64 (Go.RowKit.wrap64 ((Lib.len8tab[x.toNat].toNat:Nat):Int))=bI x:=by
 have h8:x.toNat<256:=by rw[Lib.len8tab_size]at hb;exact hb
 have l:=Go.bitLen_le8 x.toNat h8;unfold bI;rw[td x.toNat hb];unfold Go.RowKit.wrap64;omega
theorem jZ(x:Int)(i:Nat)(h0:0<=x):(x/2^i).tmod 2=((x.toNat/2^i%2:Nat):Int):=by
 rw[Int.tmod_eq_emod_of_nonneg (Int.ediv_nonneg h0 (Int.pow_nonneg (by decide))),JE x i h0]
theorem EM(p:Nat)(h:p<64):bits .or .u64 (maskI (p:Int)) (IntKind.u64.wrap (2^p))=maskI ((p+1:Nat):Int):=by
 have l:=fu p h;have b:=mP (p:Int);have q:=Nat.two_pow_pos p
 have e:IntKind.u64.wrap ((2:Int)^p)=((2^p:Nat):Int):=by
  rw[IntKind.wrap_u64,show(2:Int)^p=((2^p:Nat):Int)by simp];generalize (2:Nat)^p=y at *;omega
 rw[e,u64_or _ _ b.1 b.2 (by omega) (by omega)];unfold maskI;rw[show min ((p:Int)).toNat 64=p by omega,show min (((p+1:Nat):Int)).toNat 64=p+1 by omega]
 rw[Int.toNat_natCast,Int.toNat_natCast,Nat.or_comm,nat_join p _ _ (Nat.mod_self _) (by omega),Nat.pow_succ];congr 1;omega
theorem vg(n:Int)(p:Nat)(h:p=0\/(p:Int)<=n)(hn:n<=(p:Int)\/64<=p)(hp:p<=64):maskI (p:Int)=maskI n:=by
 unfold maskI;rw[show min ((p:Int)).toNat 64=min n.toNat 64 by omega]
theorem tU(x n:Int)(p:Nat)(h:p=0\/(p:Int)<=n)(hn:n<=(p:Int)\/64<=p)(hp:p<=64):((cnt x.toNat p:Nat):Int)=dH x n:=by
 unfold dH;rw[show min n.toNat 64=p by omega]
/-! ### what the statements ask -/
theorem qf(x n:Int):0<=dH x n/\dH x n<=64:=by
 unfold dH;have:=dL x.toNat (min n.toNat 64);omega
theorem uj(x:Int):0<=fB x/\fB x<=64:=by
 unfold fB;have:=dL x.toNat 64;omega
theorem pT(x:Int)(p:Nat)(h0:0<=x):x/2^p=((x.toNat/2^p:Nat):Int):=by
 rw[Int.natCast_ediv,Int.toNat_of_nonneg h0];simp
theorem wP(x:Int)(h0:0<=x)(h1:x<18446744073709551616):bits .xor .u64 18446744073709551615 x=((2^64-1-x.toNat:Nat):Int):=by
 rw[u64_xor _ _ (by omega) (by omega) h0 h1,show((18446744073709551615:Int)).toNat=2^64-1 from rfl];congr 1;apply Nat.eq_of_testBit_eq;intro i
 rw[Nat.testBit_xor,Nat.testBit_two_pow_sub_one,show 2^64-1-x.toNat=2^64-(x.toNat+1)by omega,Nat.testBit_two_pow_sub_succ (by omega)];by_cases c:i<64
 .simp[c]
 .have z:x.toNat.testBit i=false:=Nat.testBit_lt_two_pow (Nat.lt_of_lt_of_le (show x.toNat<2^64 by omega) (Nat.pow_le_pow_right (by decide) (by omega)));simp[c,z]
theorem parts(x:Int)(p:Nat)(h0:0<=x)(h1:x<18446744073709551616)(hp:p<64):dH x (p:Int)+fB (x/2^p)=fB x:=by
 unfold dH fB;rw[pT x p h0,show min ((p:Int)).toNat 64=p by omega,Int.toNat_natCast];have s:=pk x.toNat p (64-p);rw[show p+(64-p)=64 by omega]at s
 have l:x.toNat/2^p<2^(64-p):=by
  rw[Nat.div_lt_iff_lt_mul (Nat.two_pow_pos p),<-Nat.pow_add,show 64-p+p=64 by omega];omega
 have:=xk (x.toNat/2^p) (64-p) 64 l (by omega);omega
theorem qK(x:Int)(h0:0<=x)(h1:x<18446744073709551616)(hx:x≠0):∃p:Nat,bI x=(p:Int)/\1<=p/\p<=64/\x/2^(p-1)=1/\bits .andNot .u64 x (maskI (p:Int))=0:=by
 have hn:x.toNat≠0:=by omega
 have s:=Go.bitLen_spec x.toNat;have l:=iM x.toNat 64 (by omega);have g:=s.2 hn
 have h1':1<=Go.bitLen x.toNat:=by
  by_cases c:1<=Go.bitLen x.toNat
  .exact c
  .rw[show Go.bitLen x.toNat=0 by omega]at s;have:=s.1;omega
 refine⟨Go.bitLen x.toNat,rfl,h1',l,?_,?_⟩
 .rw[pT x _ h0];have e:2^Go.bitLen x.toNat=2^(Go.bitLen x.toNat-1)*2:=by rw[<-Nat.pow_succ];congr 1;omega
  have d:x.toNat/2^(Go.bitLen x.toNat-1)=1:=by
   apply Nat.div_eq_of_lt_le
   .omega
   .have:=s.1;omega
  rw[d];rfl
 .rw[u64_andNot x _ h0 h1 (mP _).1 (mP _).2];unfold maskI;rw[Int.toNat_natCast,show min ((Go.bitLen x.toNat:Int)).toNat 64=Go.bitLen x.toNat by omega];rw[show(0:Int)=((0:Nat):Int)from rfl]
  congr 1;apply Nat.eq_of_testBit_eq;intro i
  have hm:2^Go.bitLen x.toNat-1<2^64:=by
   have:=Nat.pow_le_pow_right (show 0<2 by decide) l;have:=Nat.two_pow_pos (Go.bitLen x.toNat);omega
  rw[Nat.testBit_and,show 18446744073709551615-(2^Go.bitLen x.toNat-1)=2^64-((2^Go.bitLen x.toNat-1)+1)by omega,Nat.testBit_two_pow_sub_succ hm,Nat.testBit_two_pow_sub_one]
  by_cases c:i<Go.bitLen x.toNat
  .simp[c]
  .have z:x.toNat.testBit i=false:=Nat.testBit_lt_two_pow (Nat.lt_of_lt_of_le s.1 (Nat.pow_le_pow_right (by decide) (by omega)));simp[z]
end Go.Proofs.YtleegaihbgbcjabGreatDoor.Num
namespace Go.Proofs.YtleegaihbgbcjabGreatDoor
open Num
namespace Bit
def gt(xs:List Nat)(i:Nat):Nat:=xs.getD i 0
def bitAt(xs:List Nat)(i:Nat):Bool:=(gt xs (i/64)).testBit (i%64)
def aA(xs:List Nat):Prop:=∀i,gt xs i<18446744073709551616
def az(N:Int)(xs:List Nat):Bool:=decide (0<=N/\N<=1048576/\(xs.length:Int)=(N+63)/64/\(N%64=0\/gt xs (xs.length-1)<2^(N%64).toNat))
def numOf:Nat->(Nat->Bool)->Nat
 | 0,_=>0
 | n+1,f=>numOf n f+if f n then 2^n else 0
theorem fg(n:Nat)(f:Nat->Bool):numOf n f<2^n:=by
 induction n with
 | zero=>simp[numOf]
 | succ n ih=>simp only[numOf,Nat.pow_succ];split<;>omega
theorem ie(n:Nat)(f:Nat->Bool)(k:Nat):(numOf n f).testBit k=(decide (k<n)&&f k):=by
 induction n with
 | zero=>simp[numOf]
 | succ n ih=>
  simp only[numOf];have hlt:=fg n f;by_cases hf:f n=true
  .rw[if_pos hf,Nat.add_comm]
   have e:2^n+numOf n f=2^n|||numOf n f:=by
    have:=Nat.two_pow_add_eq_or_of_lt hlt 1;simpa using this
   rw[e,Nat.testBit_or,Nat.testBit_two_pow,ih];by_cases hk:n=k
   .subst hk;simp[hf]
   .by_cases h2:k<n
    .simp[hk,h2,show k<n+1 by omega]
    .simp[hk,h2,show ¬k<n+1 by omega]
  .rw[if_neg hf,Nat.add_zero,ih];by_cases hk:n=k
   .subst hk;simp[hf]
   .by_cases h2:k<n
    .simp[h2,show k<n+1 by omega]
    .simp[h2,show ¬k<n+1 by omega]
theorem iY(n x:Nat)(f:Nat->Bool)(h:∀k,x.testBit k=(decide (k<n)&&f k)):x=numOf n f:=by
 refine Nat.eq_of_testBit_eq fun k=>?_;rw[h k,ie]
theorem xe(x y:Nat)(hx:x<18446744073709551616)(hy:y<18446744073709551616)(h:∀k,k<64->x.testBit k=y.testBit k):x=y:=by
 refine Nat.eq_of_testBit_eq fun k=>?_;by_cases hk:k<64
 .exact h k hk
 .have p:18446744073709551616<=2^k:=Nat.pow_le_pow_right (n:=2) (by decide) (show 64<=k by omega);rw[Nat.testBit_lt_two_pow (by omega),Nat.testBit_lt_two_pow (by omega)]
def rowOf(n:Nat)(f:Nat->Bool):List Nat:=(List.range ((n+63)/64)).map fun j=>numOf 64 fun k=>decide (64*j+k<n)&&f (64*j+k)
theorem cM(n:Nat)(f:Nat->Bool):(rowOf n f).length=(n+63)/64:=by simp[rowOf]
theorem wu(n:Nat)(f:Nat->Bool)(j:Nat):gt (rowOf n f) j=if j<(n+63)/64 then numOf 64 (fun k=>decide (64*j+k<n)&&f (64*j+k))else 0:=by
 unfold gt rowOf;by_cases h:j<(n+63)/64
 .rw[if_pos h,List.getD_eq_getElem?_getD,List.getElem?_map,List.getElem?_range h];rfl
 .rw[if_neg h,List.getD_eq_getElem?_getD,List.getElem?_eq_none (by simp;omega)];rfl
theorem fk(n:Nat)(f:Nat->Bool)(i:Nat):bitAt (rowOf n f) i=(decide (i<n)&&f i):=by
 unfold bitAt;rw[wu];have hm:i%64<64:=Nat.mod_lt _ (by decide);have hd:64*(i/64)+i%64=i:=Nat.div_add_mod i 64;by_cases h:i/64<(n+63)/64
 .rw[if_pos h,ie,hd];simp[hm]
 .rw[if_neg h,Nat.zero_testBit,show decide (i<n)=false by simp;omega];rfl
theorem cY(n:Nat)(f:Nat->Bool):aA (rowOf n f):=by
 intro j;rw[wu];split
 .exact fg 64 _
 .decide
theorem js(xs:List Nat)(i:Nat)(h:xs.length<=i):gt xs i=0:=by
 unfold gt;rw[List.getD_eq_getElem?_getD,List.getElem?_eq_none h];rfl
theorem gt_get(xs:List Nat)(i:Nat)(h:i<xs.length):xs[i]?=some (gt xs i):=by
 unfold gt;rw[List.getD_eq_getElem?_getD,List.getElem?_eq_getElem h];rfl
theorem gt_set(xs:List Nat)(i j v:Nat)(h:i<xs.length):gt (xs.set i v) j=if i=j then v else gt xs j:=by
 unfold gt;rw[List.getD_eq_getElem?_getD,List.getD_eq_getElem?_getD,List.getElem?_set];by_cases e:i=j
 .subst e;simp[h]
 .simp[e]
theorem list_ext(xs ys:List Nat)(hl:xs.length=ys.length)(h:∀i,i<xs.length->gt xs i=gt ys i):xs=ys:=by
 refine List.ext_getElem? fun i=>?_;by_cases hi:i<xs.length
 .rw[gt_get xs i hi,gt_get ys i (by omega),h i hi]
 .rw[List.getElem?_eq_none (by omega),List.getElem?_eq_none (by omega)]
theorem jU(n:Nat)(f:Nat->Bool)(xs:List Nat)(hg:aA xs)(hl:xs.length=(n+63)/64)(h:∀i,i<64*xs.length->bitAt xs i=(decide (i<n)&&f i)):xs=rowOf n f:=by
 refine list_ext _ _ (by rw[cM];exact hl) fun j hj=>?_;refine xe _ _ (hg j) (cY n f j) fun k hk=>?_;have h1:=h (64*j+k) (by omega);have h2:=fk n f (64*j+k);unfold bitAt at h1 h2
 rw[show(64*j+k)/64=j by omega,show(64*j+k)%64=k by omega]at h1 h2;rw[h1,h2]
theorem da(n:Nat)(f g:Nat->Bool)(h:∀i,i<n->f i=g i):rowOf n f=rowOf n g:=by
 refine jU n g _ (cY n f) (cM n f) fun i _=>?_;rw[fk];by_cases hi:i<n
 .rw[h i hi]
 .simp[hi]
theorem bp(N:Int)(xs:List Nat)(h:az N xs=true):0<=N/\N<=1048576/\(xs.length:Int)=(N+63)/64/\(N%64=0\/gt xs (xs.length-1)<2^(N%64).toNat):=by
 unfold az at h;exact of_decide_eq_true h
theorem kL(N:Int)(xs:List Nat)(h:az N xs=true)(i:Nat)(hi:N<=(i:Int)):bitAt xs i=false:=by
 obtain⟨h0,h1,hl,ht⟩:=bp N xs h;unfold bitAt;by_cases hlt:i/64<xs.length
 .have e:i/64=xs.length-1:=by omega
  rcases ht with ht | ht
  .omega
  .rw[e];refine Nat.testBit_lt_two_pow (Nat.lt_of_lt_of_le ht (Nat.pow_le_pow_right (by decide) ?_));omega
 .rw[js xs _ (by omega),Nat.zero_testBit]
theorem kK(N:Int)(xs:List Nat)(hg:aA xs)(h:az N xs=true):xs=rowOf N.toNat (bitAt xs):=by
 obtain⟨h0,h1,hl,_⟩:=bp N xs h;refine jU _ _ xs hg (by omega) fun i _=>?_;by_cases hi:i<N.toNat
 .simp[hi]
 .rw[kL N xs h i (by omega)];simp[hi]
theorem gB(n:Nat)(f:Nat->Bool)(h:n<=1048576):az (n:Int) (rowOf n f)=true:=by
 unfold az;rw[decide_eq_true_eq,cM];refine⟨by omega,by omega,by omega,?_⟩;by_cases hz:n%64=0
 .exact .inl (by omega)
 .refine .inr ?_;refine Nat.lt_pow_two_of_testBit _ fun k hk=>?_;by_cases hk2:k<64
  .have e:=fk n f (64*((n+63)/64-1)+k);unfold bitAt at e;rw[show(64*((n+63)/64-1)+k)/64=(n+63)/64-1 by omega,show(64*((n+63)/64-1)+k)%64=k by omega]at e
   rw[e,show decide (64*((n+63)/64-1)+k<n)=false by simp;omega];rfl
  .exact Nat.testBit_lt_two_pow (Nat.lt_of_lt_of_le (cY n f _) (Nat.pow_le_pow_right (n:=2) (by decide) (show 64<=k by omega)))
def cntB(xs:List Nat):Nat->Nat
 | 0=>0
 | k+1=>cntB xs k+if bitAt xs k then 1 else 0
theorem kP(x i:Nat):x.testBit i=decide (x/2^i%2=1):=by
 rw[Nat.testBit_eq_decide_div_mod_eq]
theorem kJ(xs:List Nat)(k r:Nat)(hr:r<=64):cntB xs (64*k+r)=cntB xs (64*k)+cnt (gt xs k) r:=by
 induction r with
 | zero=>rfl
 | succ r ih=>
  rw[<-Nat.add_assoc];simp only[cntB,cnt];rw[ih (by omega)];unfold bitAt;rw[show(64*k+r)/64=k by omega,show(64*k+r)%64=r by omega,kP];have:gt xs k/2^r%2<2:=Nat.mod_lt _ (by decide)
  by_cases h:gt xs k/2^r%2=1
  .simp[h];omega
  .have h0:gt xs k/2^r%2=0:=by omega
   simp[h0]
theorem fW(xs:List Nat)(k:Nat):cntB xs k<=k:=by
 induction k with
 | zero=>exact Nat.le_refl _
 | succ k ih=>simp only[cntB];split<;>omega
def onesI(N:Int)(xs:List Nat)(n:Int):Int:=if az N xs then (cntB xs (min n N).toNat:Int)else 0
def du(N:Int)(xs:List Nat)(i:Int):Int:=if az N xs=false then 2 else if i<0\/N<=i then 3 else 0
def gy(N:Int)(xs:List Nat)(i:Int):Bool:=az N xs&&(decide (0<=i/\i<N)&&bitAt xs i.toNat)
def slcE(N:Int)(xs:List Nat)(at_ n:Int):Int:=if az N xs=false\/n<0\/64<n then 2 else if at_<0\/N-n<at_ then 3 else 0
def slcX(N:Int)(xs:List Nat)(at_ n:Int):Nat:=if slcE N xs at_ n=0 then numOf n.toNat (fun k=>bitAt xs (at_.toNat+k))else 0
end Bit
end Go.Proofs.YtleegaihbgbcjabGreatDoor
namespace Go.Proofs.YtleegaihbgbcjabGreatDoor.Sh
open Num Bit
def cp(P:Nat->Bool)(t:List Nat):Nat->Nat
 | 0=>0
 | i+1=>cp P t i+(P (gt t i)).toNat
def mem(P:Nat->Bool)(t:List Nat)(n:Nat):List Nat:=(List.range n).filter fun j=>P (gt t j)
def row(P f:Nat->Bool)(t:List Nat)(n:Nat):List Bool:=(mem P t n).map fun j=>f (gt t j)
def ct(b:Bool)(l:List Bool)(i:Nat):Nat:=((l.take i).filter (·==b)).length
theorem qD(P:Nat->Bool)(t:List Nat)(n:Nat):mem P t (n+1)=mem P t n++if P (gt t n)then [n]else []:=by
 unfold mem;rw[List.range_succ,List.filter_append];cases h:P (gt t n)<;>simp[h]
theorem length_mem(P:Nat->Bool)(t:List Nat)(n:Nat):(mem P t n).length=cp P t n:=by
 induction n with
 | zero=>rfl
 | succ n ih=>
  rw[qD,List.length_append,ih,cp];cases P (gt t n)<;>rfl
theorem cp_le(P:Nat->Bool)(t:List Nat)(i:Nat):cp P t i<=i:=by
 induction i with
 | zero=>exact Nat.le_refl _
 | succ i ih=>have:=Bool.toNat_le (P (gt t i));rw[cp];omega
theorem Iq(P:Nat->Bool)(t:List Nat)(i d:Nat):cp P t i<=cp P t (i+d):=by
 induction d with
 | zero=>exact Nat.le_refl _
 | succ d ih=>rw[show i+(d+1)=i+d+1 by omega,cp];omega
theorem Ez(P:Nat->Bool)(t:List Nat)(i d:Nat):(mem P t (i+d)).take (cp P t i)=mem P t i:=by
 induction d with
 | zero=>rw[<-length_mem];exact List.take_length
 | succ d ih=>
  rw[show i+(d+1)=i+d+1 by omega,qD,List.take_append_of_le_length (by rw[length_mem];exact Iq _ _ _ _),ih]
theorem mem_at(P:Nat->Bool)(t:List Nat)(j n:Nat)(hj:j<n)(h:P (gt t j)=true):(mem P t n)[cp P t j]?=some j:=by
 have e:=Ez P t (j+1) (n-(j+1));rw[show j+1+(n-(j+1))=n by omega]at e
 have g:(mem P t (j+1))[cp P t j]?=some j:=by
  rw[qD,h,if_pos rfl,<-length_mem,List.getElem?_append_right (Nat.le_refl _),Nat.sub_self];rfl
 rw[<-e,List.getElem?_take_of_lt (by rw[cp,h];simp)]at g;exact g
section
variable (v k:Nat->Nat)
def pre(L c:Nat):Nat:=k c/2^(v c-L)
def bg(L x c:Nat):Bool:=decide (L<=v c)&&decide (pre v k L c=x)
def st(L x c:Nat):Bool:=decide (L<v c)&&decide (pre v k L c=x)
def nb(L c:Nat):Bool:=decide (pre v k (L+1) c%2=1)
def Apart:Prop:=∀c d,0<v c->0<v d->v c<=v d->pre v k (v c) d=k c->c=d
def cc(t:List Nat)(c L i:Nat):Nat:=cp (bg v k L (pre v k L c)) t i
end
end Go.Proofs.YtleegaihbgbcjabGreatDoor.Sh
namespace Go.Proofs.YtleegaihbgbcjabGreatDoor.Mx
open Num Bit
def tb(l c:Nat):Bool:=c.testBit (7-l)
def hi(l c:Nat):Nat:=c/2^(8-l)
theorem wi{c:Nat}(hc:c<256):hi 0 c=0:=Nat.div_eq_of_lt hc
theorem wn(c:Nat):hi 8 c=c:=by
 unfold hi;simp
theorem wj{l:Nat}(hl:l<8)(c:Nat):hi (l+1) c=2*hi l c+(tb l c).toNat:=by
 unfold hi tb;have e:8-l=(8-(l+1))+1:=by omega
 have e2:7-l=8-(l+1):=by omega
 rw[e,e2,Nat.pow_succ,<-Nat.div_div_eq_div_mul,Nat.testBit_eq_decide_div_mod_eq];generalize c/2^(8-(l+1))=q;have:=Nat.mod_two_eq_zero_or_one q;rcases this with h | h<;>simp[h]<;>omega
theorem Gp{l:Nat}(hl:l<8)(c d:Nat):hi (l+1) c=hi (l+1) d↔hi l c=hi l d/\tb l c=tb l d:=by
 rw[wj hl,wj hl];cases tb l c<;>cases tb l d<;>simp<;>omega
def pt(f:Nat->Bool)(L:List Nat):List Nat:=L.filter (fun j=>f j==false)++L.filter (fun j=>f j==true)
def bel(f:Nat->Bool)(L:List Nat)(b:Bool)(i:Nat):Nat:=(if b=true then (L.filter fun j=>f j==false).length else 0)+((L.take i).filter fun j=>f j==b).length
theorem Hm(g:Nat->Bool)(L:List Nat)(i j:Nat)(h:L[i]?=some j)(hg:g j=true):(L.filter g)[((L.take i).filter g).length]?=some j:=by
 obtain⟨hi,rfl⟩:=List.getElem?_eq_some_iff.1 h
 have e:L.filter g=(L.take i).filter g++(L[i]::(L.drop (i+1)).filter g):=by
  conv=>lhs;rw[<-List.take_append_drop i L,List.filter_append,List.drop_eq_getElem_cons hi,List.filter_cons,if_pos hg]
 rw[e,List.getElem?_append_right (Nat.le_refl _),Nat.sub_self];rfl
theorem wW(g:Nat->Bool)(L:List Nat)(i:Nat):(L.filter g).take ((L.take i).filter g).length=(L.take i).filter g:=by
 have e:L.filter g=(L.take i).filter g++(L.drop i).filter g:=by
  conv=>lhs;rw[<-List.take_append_drop i L,List.filter_append]
 rw[e,List.take_left]
theorem Hk(g:Nat->Bool)(L:List Nat)(i:Nat):(L.filter g).drop ((L.take i).filter g).length=(L.drop i).filter g:=by
 have e:L.filter g=(L.take i).filter g++(L.drop i).filter g:=by
  conv=>lhs;rw[<-List.take_append_drop i L,List.filter_append]
 rw[e,List.drop_left]
theorem Hl(g:Nat->Bool)(L:List Nat)(s e:Nat)(h:s<=e):((L.filter g).take ((L.take e).filter g).length).drop ((L.take s).filter g).length=((L.take e).drop s).filter g:=by
 rw[wW];have:=Hk g (L.take e) s;rw[List.take_take,Nat.min_eq_left h]at this;exact this
theorem perm_pt(f:Nat->Bool)(L:List Nat):(pt f L).Perm L:=by
 unfold pt;induction L with
 | nil=>exact .refl _
 | cons a L ih=>
  cases h:f a
  .rw[List.filter_cons,if_pos (by rw[h];rfl),List.filter_cons,if_neg (by rw[h];decide)];exact ih.cons a
  .rw[List.filter_cons,if_neg (by rw[h];decide),List.filter_cons,if_pos (by rw[h];rfl)];exact List.perm_middle.trans (ih.cons a)
theorem Ch{f:Nat->Bool}{L:List Nat}{i j:Nat}(h:L[i]?=some j):(pt f L)[bel f L (f j) i]?=some j:=by
 have e:=Hm (fun x=>f x==f j) L i j h (by simp);unfold pt bel;cases hf:f j
 .rw[hf]at e;rw[if_neg (by decide),Nat.zero_add,List.getElem?_append_left (List.getElem?_eq_some_iff.1 e).1];exact e
 .rw[hf]at e;rw[if_pos rfl,List.getElem?_append_right (Nat.le_add_right _ _),Nat.add_sub_cancel_left];exact e
theorem Cf(f:Nat->Bool)(L:List Nat)(b:Bool)(s e:Nat)(h:s<=e):((pt f L).take (bel f L b e)).drop (bel f L b s)=((L.take e).drop s).filter fun j=>f j==b:=by
 have c:=Hl (fun j=>f j==b) L s e h;unfold pt bel;cases b
 .rw[if_neg (by decide),Nat.zero_add,Nat.zero_add,List.take_append_of_le_length]
  .exact c
  .have:=wW (fun j=>f j==false) L e;have:=congrArg List.length this;rw[List.length_take]at this;omega
 .rw[if_pos rfl,List.take_length_add_append,List.drop_length_add_append];exact c
theorem JL(f:Nat->Bool)(L:List Nat)(b:Bool)(s e:Nat)(h:s<=e):bel f L b s<=bel f L b e:=by
 unfold bel;refine Nat.add_le_add_left ?_ _;have:(L.take s)=(L.take e).take s:=by rw[List.take_take,Nat.min_eq_left h]
 rw[this];exact((List.take_sublist s (L.take e)).filter _).length_le
theorem JM(f:Nat->Bool)(L:List Nat)(b:Bool)(i:Nat):bel f L b i<=L.length:=by
 have hp:=(perm_pt f L).length_eq;unfold pt at hp;rw[List.length_append]at hp;have:=((List.take_sublist i L).filter fun j=>f j==b).length_le;unfold bel;cases b
 .rw[if_neg (by decide)];omega
 .rw[if_pos rfl];omega
def pl(t:List Nat):Nat->List Nat
 | 0=>List.range t.length
 | l+1=>pt (fun j=>tb l (gt t j)) (pl t l)
def rw_(t:List Nat)(l:Nat):List Bool:=(pl t l).map fun j=>tb l (gt t j)
def zs(t:List Nat)(l:Nat):Nat:=Sh.ct false (rw_ t l) (rw_ t l).length
def be(t:List Nat)(l:Nat)(b:Bool)(i:Nat):Nat:=(if b=true then zs t l else 0)+Sh.ct b (rw_ t l) i
theorem oa(t:List Nat):∀l,(pl t l).Perm (List.range t.length)
 | 0=>.refl _
 | l+1=>(perm_pt _ _).trans (oa t l)
theorem length_pl(t:List Nat)(l:Nat):(pl t l).length=t.length:=by rw[(oa t l).length_eq,List.length_range]
theorem length_rw(t:List Nat)(l:Nat):(rw_ t l).length=t.length:=by unfold rw_;rw[List.length_map,length_pl]
theorem DS(t:List Nat)(l:Nat):(pl t l).Nodup:=(oa t l).nodup_iff.2 List.nodup_range
theorem mem_pl(t:List Nat)(l j:Nat):j∈pl t l↔j<t.length:=by rw[(oa t l).mem_iff,List.mem_range]
theorem rE(f:Nat->Bool)(L:List Nat)(b:Bool)(i:Nat):Sh.ct b (L.map f) i=((L.take i).filter fun j=>f j==b).length:=by
 unfold Sh.ct;rw[<-List.map_take,List.filter_map,List.length_map];rfl
theorem mp(t:List Nat)(l:Nat)(b:Bool)(i:Nat):be t l b i=bel (fun j=>tb l (gt t j)) (pl t l) b i:=by
 unfold be bel zs;rw[length_rw];unfold rw_;rw[rE,rE,List.take_of_length_le (by rw[length_pl];exact Nat.le_refl _)]
theorem ct_le(b:Bool)(L:List Bool)(i:Nat):Sh.ct b L i<=i:=by
 unfold Sh.ct;exact Nat.le_trans (List.length_filter_le _ _) (by rw[List.length_take];omega)
theorem zs_le(t:List Nat)(l:Nat):zs t l<=t.length:=by
 have:=ct_le false (rw_ t l) (rw_ t l).length;rw[length_rw]at this;unfold zs;rw[length_rw];exact this
theorem JN(t:List Nat)(l:Nat)(b:Bool)(i:Nat):be t l b i<=t.length:=by
 rw[mp];have:=JM (fun j=>tb l (gt t j)) (pl t l) b i;rwa [length_pl]at this
def pos(t:List Nat)(j:Nat):Nat->Nat
 | 0=>j
 | l+1=>be t l (tb l (gt t j)) (pos t j l)
theorem mG{t:List Nat}{j:Nat}(hj:j<t.length):∀l,(pl t l)[pos t j l]?=some j
 | 0=>by rw[pl,pos,List.getElem?_range hj]
 | l+1=>by
  rw[pl,pos,mp];exact Ch (mG hj l)
theorem pos_lt{t:List Nat}{j:Nat}(hj:j<t.length)(l:Nat):pos t j l<t.length:=by
 have:=(List.getElem?_eq_some_iff.1 (mG hj l)).1;rwa [length_pl]at this
theorem rw_pos{t:List Nat}{j:Nat}(hj:j<t.length)(l:Nat):(rw_ t l)[pos t j l]?=some (tb l (gt t j)):=by
 unfold rw_;rw[List.getElem?_map,mG hj l];rfl
theorem qj{t:List Nat}{j i l:Nat}(hj:j<t.length)(h:(pl t l)[i]?=some j):i=pos t j l:=by
 have l1:=(List.getElem?_eq_some_iff.1 h).1;exact(List.getElem?_inj l1 (DS t l)).1 (h.trans (mG hj l).symm)
def lw_(t:List Nat)(c:Nat):Nat->Nat
 | 0=>0
 | l+1=>be t l (tb l c) (lw_ t c l)
def up(t:List Nat)(c i:Nat):Nat->Nat
 | 0=>i
 | l+1=>be t l (tb l c) (up t c i l)
theorem oF(t:List Nat)(c i:Nat):∀l,lw_ t c l<=up t c i l
 | 0=>Nat.zero_le _
 | l+1=>by
  rw[lw_,up,mp,mp];exact JL _ _ _ _ _ (oF t c i l)
theorem up_le(t:List Nat)(c i:Nat)(h:i<=t.length):∀l,up t c i l<=t.length
 | 0=>h
 | l+1=>JN _ _ _ _
theorem lw_le(t:List Nat)(c l:Nat):lw_ t c l<=t.length:=Nat.le_trans (oF t c t.length l) (up_le t c _ (Nat.le_refl _) l)
theorem tw{t:List Nat}(hB:∀i,gt t i<256){c i:Nat}(hc:c<256)(h:i<=t.length):∀l,l<=8->((pl t l).take (up t c i l)).drop (lw_ t c l)=(List.range i).filter fun j=>decide (hi l (gt t j)=hi l c)
 | 0,_=>by
  rw[pl,up,lw_,List.drop_zero,List.filter_eq_self.2 fun j _=>by rw[wi (hB j),wi hc];rfl];rw[List.take_range,Nat.min_eq_left h]
 | l+1,hl=>by
  rw[pl,up,lw_,mp,mp,Cf _ _ _ _ _ (oF t c i l),tw hB hc h l (by omega),List.filter_filter];refine List.filter_congr fun j _=>?_;have:=Gp (show l<8 by omega) (gt t j) c
  by_cases e1:hi l (gt t j)=hi l c
  .by_cases e2:tb l (gt t j)=tb l c
   .simp[e1,e2,this]
   .simp[e1,e2,this]
  .simp[e1,this]
theorem tu{t:List Nat}(hB:∀i,gt t i<256){c i:Nat}(hc:c<256)(h:i<=t.length):((pl t 8).take (up t c i 8)).drop (lw_ t c 8)=Sh.mem (fun d=>decide (d=c)) t i:=by
 rw[tw hB hc h 8 (Nat.le_refl _)];unfold Sh.mem;refine List.filter_congr fun j _=>?_;rw[wn,wn]
theorem rank8{t:List Nat}(hB:∀i,gt t i<256){c i:Nat}(hc:c<256)(h:i<=t.length):up t c i 8=lw_ t c 8+Sh.cp (fun d=>decide (d=c)) t i:=by
 have e:=congrArg List.length (tu hB hc h);rw[Sh.length_mem,List.length_drop,List.length_take,length_pl,Nat.min_eq_left (up_le t c i h 8)]at e;have:=oF t c i 8;omega
theorem sel8{t:List Nat}(hB:∀i,gt t i<256){c k p:Nat}(hc:c<256)(h:(Sh.mem (fun d=>decide (d=c)) t t.length)[k]?=some p):p<t.length/\gt t p=c/\lw_ t c 8+k=pos t p 8:=by
 have hm:p∈Sh.mem (fun d=>decide (d=c)) t t.length:=List.mem_of_getElem? h;unfold Sh.mem at hm;obtain⟨h1,h2⟩:=List.mem_filter.1 hm;have hp:p<t.length:=List.mem_range.1 h1
 refine⟨hp,of_decide_eq_true h2,qj hp ?_⟩;rw[<-tu hB hc (Nat.le_refl _),List.getElem?_drop]at h;have l1:=(List.getElem?_eq_some_iff.1 h).1;rw[List.length_take]at l1;rwa [List.getElem?_take_of_lt (by omega)]at h
def top(l c:Nat):Nat:=c/2^(8-l)*2^(8-l)
theorem pO:∀(c:Fin 256) (l:Fin 8),(if tb l.val c.val=true then top l.val c.val|||2^(7-l.val)else top l.val c.val)=top (l.val+1) c.val/\tb l.val (top (l.val+1) c.val)=tb l.val c.val/\top (l.val+1) c.val<256:=by decide +kernel
theorem top_on{c l:Nat}(hc:c<256)(hl:l<8)(h:tb l c=true):top l c|||2^(7-l)=top (l+1) c:=by
 have:=(pO ⟨c,hc⟩ ⟨l,hl⟩).1;dsimp only at this;rwa [if_pos h]at this
theorem top_off{c l:Nat}(hc:c<256)(hl:l<8)(h:tb l c=false):top l c=top (l+1) c:=by
 have:=(pO ⟨c,hc⟩ ⟨l,hl⟩).1;dsimp only at this;rwa [if_neg (by rw[h];decide)]at this
theorem top_tb{c l:Nat}(hc:c<256)(hl:l<8):tb l (top (l+1) c)=tb l c:=(pO ⟨c,hc⟩ ⟨l,hl⟩).2.1
theorem top_lt{c l:Nat}(hc:c<256):top l c<256:=Nat.lt_of_le_of_lt (Nat.div_mul_le_self _ _) hc
theorem top_zero{c:Nat}(hc:c<256):top 0 c=0:=by
 unfold top;rw[Nat.div_eq_of_lt hc,Nat.zero_mul]
theorem top_eight(c:Nat):top 8 c=c:=by
 unfold top;simp
def txL(t:List Nat)(l i:Nat):List Nat:=(List.range t.length).map fun j=>if pos t j l<i then top (l+1) (gt t j)else top l (gt t j)
theorem length_txL(t:List Nat)(l i:Nat):(txL t l i).length=t.length:=by simp[txL]
theorem jS(t:List Nat)(l i j:Nat)(h:j<t.length):(txL t l i)[j]?=some (if pos t j l<i then top (l+1) (gt t j)else top l (gt t j)):=by
 unfold txL;rw[List.getElem?_map,List.getElem?_range h];rfl
theorem kX{t a b:List Nat}(ha:a.length=t.length)(hb:b.length=t.length)(h:∀j,j<t.length->a[j]?=b[j]?):a=b:=by
 refine List.ext_getElem? fun j=>?_;by_cases hj:j<t.length
 .exact h j hj
 .rw[List.getElem?_eq_none (by omega),List.getElem?_eq_none (by omega)]
theorem txL_zero{t:List Nat}(hB:∀i,gt t i<256):txL t 0 0=List.replicate t.length 0:=kX (t:=t) (length_txL _ _ _) (by simp) fun j hj=>by
 rw[jS t 0 0 j hj,if_neg (Nat.not_lt_zero _),top_zero (hB j),List.getElem?_replicate,if_pos hj]
theorem txL_next(t:List Nat)(l:Nat):txL t l t.length=txL t (l+1) 0:=kX (length_txL _ _ _) (length_txL _ _ _) fun j hj=>by
 rw[jS _ _ _ j hj,jS _ _ _ j hj,if_pos (pos_lt hj l),if_neg (Nat.not_lt_zero _)]
theorem txL_all(t:List Nat):txL t 8 0=t:=kX (length_txL _ _ _) rfl fun j hj=>by
 rw[jS _ _ _ j hj,if_neg (Nat.not_lt_zero _),top_eight];unfold gt;rw[List.getD_eq_getElem?_getD,List.getElem?_eq_getElem hj];rfl
theorem txL_step{t:List Nat}{l i p:Nat}(h:(pl t l)[i]?=some p):p<t.length/\gt (txL t l i) p=top l (gt t p)/\(txL t l i).set p (top (l+1) (gt t p))=txL t l (i+1):=by
 have hp:p<t.length:=(mem_pl t l p).1 (List.mem_of_getElem? h);have hi:=qj hp h;refine⟨hp,?_,kX (by rw[List.length_set,length_txL]) (length_txL _ _ _) fun j hj=>?_⟩
 .unfold gt;rw[List.getD_eq_getElem?_getD,jS _ _ _ _ hp,if_neg (by omega)];rfl
 .rw[List.getElem?_set,length_txL,jS _ _ _ j hj,jS _ _ _ j hj];by_cases e:p=j
  .subst e;rw[if_pos rfl,if_pos hp,if_pos (by omega)]
  .rw[if_neg e]
   have:pos t j l≠i:=fun e2=>by
    have:=mG hj l;rw[e2,h]at this;exact e (Option.some.inj this)
   by_cases c1:pos t j l<i
   .rw[if_pos c1,if_pos (by omega)]
   .rw[if_neg c1,if_neg (by omega)]
theorem txL_skip{t:List Nat}(hB:∀i,gt t i<256){l i p:Nat}(hl:l<8)(h:(pl t l)[i]?=some p)(h0:tb l (gt t p)=false):txL t l i=txL t l (i+1):=by
 obtain⟨h1,h2,h3⟩:=txL_step h;rw[<-h3,<-top_off (hB p) hl h0,<-h2];refine kX (length_txL _ _ _) (by rw[List.length_set,length_txL]) fun j hj=>?_;rw[List.getElem?_set,length_txL];by_cases e:p=j
 .subst e;rw[if_pos rfl,if_pos h1];unfold gt;rw[List.getD_eq_getElem?_getD,List.getElem?_eq_getElem (by rw[length_txL];exact hj)];rfl
 .rw[if_neg e]
theorem gt_txL{t:List Nat}(l p:Nat)(hp:p<t.length):gt (txL t (l+1) 0) p=top (l+1) (gt t p):=by
 unfold gt;rw[List.getD_eq_getElem?_getD,jS _ _ _ _ hp,if_neg (Nat.not_lt_zero _)];rfl
end Go.Proofs.YtleegaihbgbcjabGreatDoor.Mx
namespace Go.Proofs.YtleegaihbgbcjabGreatDoor.Mx
open Num Bit
def sy(t:List Nat)(l:Nat):List Nat:=(pl t l).map (gt t)
theorem sy_zero(t:List Nat):sy t 0=t:=by
 refine kX (t:=t) (by unfold sy;rw[List.length_map,length_pl]) rfl fun j hj=>?_;unfold sy;rw[pl,List.getElem?_map,List.getElem?_range hj];show some (gt t j)=_;unfold gt
 rw[List.getD_eq_getElem?_getD,List.getElem?_eq_getElem hj];rfl
theorem Cg(f:Nat->Bool)(g:Nat->Nat)(L:List Nat):(pt (fun j=>f (g j)) L).map g=pt f (L.map g):=by
 unfold pt;rw[List.map_append,List.filter_map,List.filter_map];rfl
theorem sy_succ(t:List Nat)(l:Nat):sy t (l+1)=pt (tb l) (sy t l):=by
 unfold sy;rw[pl,Cg (tb l) (gt t)]
theorem length_sy(t:List Nat)(l:Nat):(sy t l).length=t.length:=by unfold sy;rw[List.length_map,length_pl]
theorem rw_sy(t:List Nat)(l:Nat):rw_ t l=(sy t l).map (tb l):=by
 unfold rw_ sy;rw[List.map_map];rfl
theorem byt_sy{t:List Nat}(hB:∀i,gt t i<256)(l:Nat):∀i,gt (sy t l) i<256:=fun i=>by
 unfold gt sy;rw[List.getD_eq_getElem?_getD,List.getElem?_map];cases (pl t l)[i]? with
 | none=>exact(by decide:(0:Nat)<256)
 | some j=>exact hB j
theorem zs_sy(t:List Nat)(l:Nat):zs t l=((sy t l).filter fun c=>tb l c==false).length:=by
 unfold zs;rw[rw_sy,List.length_map,rE,List.take_length]
def bt_(L:List Bool)(i:Nat):Bool:=L.getD i false
def xM(r:Nat->List Bool)(n:Nat)(l:Nat)(b:Bool)(i:Nat):Nat:=(if b=true then Sh.ct false (r l) n else 0)+Sh.ct b (r l) i
def posR(r:Nat->List Bool)(n:Nat)(j:Nat):Nat->Nat
 | 0=>j
 | l+1=>xM r n l (bt_ (r l) (posR r n j l)) (posR r n j l)
def dg(r:Nat->List Bool)(n:Nat)(j:Nat):Nat->Nat
 | 0=>0
 | l+1=>2*dg r n j l+(bt_ (r l) (posR r n j l)).toNat
def tx(r:Nat->List Bool)(n:Nat):List Nat:=(List.range n).map fun j=>dg r n j 8
theorem xh(r:Nat->List Bool)(n:Nat)(j:Nat):∀l,dg r n j l<2^l
 | 0=>Nat.one_pos
 | l+1=>by
  have:=xh r n j l;have:=Bool.toNat_le (bt_ (r l) (posR r n j l));rw[dg,Nat.pow_succ];omega
theorem xi(r:Nat->List Bool)(n:Nat)(j l:Nat):∀d,dg r n j (l+d)/2^d=dg r n j l
 | 0=>by simp
 | d+1=>by
  have:=Bool.toNat_le (bt_ (r (l+d)) (posR r n j (l+d)))
  rw[show l+(d+1)=l+d+1 by omega,dg,Nat.pow_succ,Nat.mul_comm (2^d) 2,<-Nat.div_div_eq_div_mul,show(2*dg r n j (l+d)+(bt_ (r (l+d)) (posR r n j (l+d))).toNat)/2=dg r n j (l+d)by omega]
  exact xi r n j l d
theorem ta(r:Nat->List Bool)(n:Nat)(j l:Nat)(hl:l<8):tb l (dg r n j 8)=bt_ (r l) (posR r n j l):=by
 unfold tb;have e:=xi r n j (l+1) (7-l);rw[show l+1+(7-l)=8 by omega]at e;rw[Nat.testBit_eq_decide_div_mod_eq,e,dg];cases bt_ (r l) (posR r n j l)<;>simp<;>omega
theorem length_tx(r:Nat->List Bool)(n:Nat):(tx r n).length=n:=by simp[tx]
theorem rj(r:Nat->List Bool)(n:Nat)(j:Nat)(h:j<n):gt (tx r n) j=dg r n j 8:=by
 unfold gt tx;rw[List.getD_eq_getElem?_getD,List.getElem?_map,List.getElem?_range h];rfl
theorem byt_tx(r:Nat->List Bool)(n:Nat):∀i,gt (tx r n) i<256:=fun i=>by
 by_cases h:i<n
 .rw[rj r n i h];exact xh r n i 8
 .unfold gt;rw[List.getD_eq_getElem?_getD,List.getElem?_eq_none (by rw[length_tx];omega)];decide
theorem ui(r:Nat->List Bool)(n:Nat)(hr:∀l,l<8->(r l).length=n):∀l,l<=8->(∀k,k<l->rw_ (tx r n) k=r k)->∀j,j<n->pos (tx r n) j l=posR r n j l
 | 0,_,_,_,_=>rfl
 | l+1,hl,hk,j,hj=>by
  rw[pos,posR,ui r n hr l (by omega) (fun k h=>hk k (by omega)) j hj,rj r n j hj,ta r n j l (by omega)];unfold be xM zs;rw[hk l (by omega),hr l (by omega)]
theorem tB(r:Nat->List Bool)(n:Nat)(hr:∀l,l<8->(r l).length=n)(l:Nat)(hl:l<8)(hk:∀k,k<l->rw_ (tx r n) k=r k):rw_ (tx r n) l=r l:=by
 refine List.ext_getElem? fun i=>?_;by_cases hi:i<n
 .obtain⟨j,hj⟩:∃j,(pl (tx r n) l)[i]?=some j:=⟨_,List.getElem?_eq_getElem (by rw[length_pl,length_tx];exact hi)⟩
  have hjn:j<n:=by have:=(mem_pl (tx r n) l j).1 (List.mem_of_getElem? hj);rwa [length_tx]at this
  have hjt:j<(tx r n).length:=by rw[length_tx];exact hjn
  have e:=qj hjt hj;have:=rw_pos hjt l;rw[<-e,rj r n j hjn,ta r n j l hl,<-ui r n hr l (by omega) hk j hjn,<-e]at this;rw[this];unfold bt_
  rw[List.getD_eq_getElem?_getD,List.getElem?_eq_getElem (by rw[hr l hl];exact hi)];rfl
 .rw[List.getElem?_eq_none (by rw[length_rw,length_tx];omega),List.getElem?_eq_none (by rw[hr l hl];omega)]
theorem rw_tx(r:Nat->List Bool)(n:Nat)(hr:∀l,l<8->(r l).length=n):∀l,l<8->∀k,k<=l->rw_ (tx r n) k=r k
 | 0,h0,k,hk=>by
  obtain rfl:k=0:=by omega
  exact tB r n hr 0 h0 fun k h=>absurd h (Nat.not_lt_zero _)
 | l+1,hl,k,hk=>by
  by_cases e:k<=l
  .exact rw_tx r n hr l (by omega) k e
  .obtain rfl:k=l+1:=by omega
   exact tB r n hr _ hl fun k h=>rw_tx r n hr l (by omega) k (by omega)
end Go.Proofs.YtleegaihbgbcjabGreatDoor.Mx
namespace Go.Proofs.YtleegaihbgbcjabGreatDoor
open Go.RowKit
def aa(w:World)(b:Nat)(cs:List Value)(T:TypeId):Prop:=w.heap[b]?=some (.cells cs.toArray T (0,0))
theorem aa.lt{w:World}{b:Nat}{cs:List Value}{T:TypeId}(h:aa w b cs T):b<w.heap.size:=(Array.getElem?_eq_some_iff.1 h).1
theorem aa.cell{w:World}{b:Nat}{cs:List Value}{T:TypeId}(h:aa w b cs T)(i:Nat){v:Value}(hv:cs[i]?=some v):w.cell? ⟨b,i,none⟩=some v:=by
 unfold World.cell?;rw[show w.heap[({ block:=b,off:=i,spot:=none }:Addr).block]?=_ from h];simpa using hv
theorem aa.frozen{w:World}{b:Nat}{cs:List Value}{T:TypeId}(h:aa w b cs T)(i:Nat):w.frozen? ⟨b,i,none⟩=false:=by
 unfold World.frozen?;rw[show w.heap[({ block:=b,off:=i,spot:=none }:Addr).block]?=_ from h];simp
theorem aa.set{w:World}{b:Nat}{cs:List Value}{T:TypeId}(h:aa w b cs T)(i:Nat)(v:Value):aa (w.setCell ⟨b,i,none⟩ v) b (cs.set i v) T:=by
 unfold aa at h⊢;simp only[World.setCell,Array.getElem?_modify];rw[if_pos trivial,h];simp
theorem aa.other{w:World}{b:Nat}{cs:List Value}{T:TypeId}(h:aa w b cs T){a:Addr}(ha:b≠a.block)(v:Value):aa (w.setCell a v) b cs T:=(Below.heap_setCell w a v b ha).trans h
theorem aa.keep{w w':World}{b base:Nat}{cs:List Value}{T:TypeId}(h:aa w b cs T)(hb:Below base w w')(hlt:b<base):aa w' b cs T:=(hb.block b hlt).trans h
theorem aa.kept{w w':World}{b:Nat}{cs:List Value}{T:TypeId}(h:aa w b cs T)(hb:Below w.heap.size w w'):aa w' b cs T:=h.keep hb h.lt
theorem aa.drew{w:World}{b:Nat}{cs:List Value}{T:TypeId}(h:aa w b cs T):aa w.drew b cs T:=h
theorem aa.new(w:World)(cs:List Value)(T:TypeId):aa (w.alloc (.cells cs.toArray T)) w.heap.size cs T:=by
 show(w.heap.push (.cells cs.toArray T))[w.heap.size]?=_;simp
theorem aa.new2(w:World)(o:Obj)(cs:List Value)(T:TypeId):aa ((w.alloc o).alloc (.cells cs.toArray T)) (w.heap.size+1) cs T:=by
 have:=aa.new (w.alloc o) cs T;simpa using this
theorem aa.alloc{w:World}{b:Nat}{cs:List Value}{T:TypeId}(h:aa w b cs T)(o:Obj):aa (w.alloc o) b cs T:=h.kept ((Below.refl _ _).alloc (Nat.le_refl _) _)
theorem bn{w W:World}{cs:List Value}{T:TypeId}(h:W=w.alloc (.cells cs.toArray T)):aa W w.heap.size cs T:=h ▸ aa.new w cs T
theorem cQ{w W:World}{o:Obj}{cs:List Value}{T:TypeId}(h:W=(w.alloc o).alloc (.cells cs.toArray T)):aa W (w.heap.size+1) cs T:=h ▸ aa.new2 w o cs T
theorem dj{w W:World}{o:Obj}{cs:List Value}{T:TypeId}(h:W=(w.alloc (.cells cs.toArray T)).alloc o):aa W w.heap.size cs T:=h ▸ (aa.new w cs T).alloc o
open Go.RowKit Num Bit
def Bd(w:World)(ao:Option Addr)(t:List Nat):Prop:=
 0<t.length->∃b off,ao=some ⟨b,off,none⟩/\b<w.heap.size/\∀i,i<t.length->w.cell? ⟨b,off+i,none⟩=some (.int .u8 (gt t i))
theorem Bd.keep{w w':World}{ao:Option Addr}{t:List Nat}(h:Bd w ao t)(hb:Below w.heap.size w w'):Bd w' ao t:=by
 intro hi;obtain⟨b,off,e,hlt,hc⟩:=h hi;exact⟨b,off,e,Nat.lt_of_lt_of_le hlt hb.size,fun i hi=>(hb.cell (p:=⟨b,off+i,none⟩) hlt).trans (hc i hi)⟩
theorem sj(w:World)(ao:Option Addr):Bd w ao []:=fun h=>absurd h (by simp)
def iR(t:List Nat):Prop:=∀i,gt t i<256
def ef(t:List Nat)(i:Int):Int:=if i<0\/(t.length:Int)<i then 3 else 0
def fw(t:List Nat)(c:Nat)(i:Int):Int:=if ef t i=0 then (Sh.cp (fun d=>decide (d=c)) t i.toNat:Int)else 0
theorem rG{P:Nat->Bool}{t:List Nat}:∀{n K:Nat},K<Sh.cp P t n->∃j,j<n/\P (gt t j)=true/\Sh.cp P t j=K
 | 0,K,h=>by simp[Sh.cp]at h
 | n+1,K,h=>by
  by_cases h1:K<Sh.cp P t n
  .obtain⟨j,a,b⟩:=rG h1;exact⟨j,by omega,b⟩
  .rw[Sh.cp]at h;cases hp:P (gt t n)
   .rw[hp]at h;simp at h;omega
   .rw[hp]at h;exact⟨n,by omega,hp,by simp at h;omega⟩
def mK(t:List Nat)(c:Nat)(K:Int):Prop:=0<=K/\K<(Sh.cp (fun d=>decide (d=c)) t t.length:Int)
instance (t:List Nat) (c:Nat) (K:Int):Decidable (mK t c K):=inferInstanceAs (Decidable (_/\_))
def ssE(t:List Nat)(c:Nat)(K:Int):Int:=if mK t c K then 0 else 3
def ssN(t:List Nat)(c:Nat)(K:Int):Int:=if mK t c K then ((Sh.mem (fun d=>decide (d=c)) t t.length).getD K.toNat 0:Nat)else 0
def dR(t:List Nat)(i:Int):Int:=if i<0\/(t.length:Int)<=i then 3 else 0
def saC(t:List Nat)(i:Int):Nat:=if dR t i=0 then gt t i.toNat else 0
theorem pV{t:List Nat}{i:Nat}(h:i<t.length):dR t (i:Int)=0/\saC t (i:Int)=gt t i:=by
 have e:dR t (i:Int)=0:=by unfold dR;rw[if_neg (by omega)]
 refine⟨e,?_⟩;unfold saC;rw[if_pos e,Int.toNat_natCast]
theorem pS{t:List Nat}{i:Nat}(c:Nat)(h:i<=t.length):ef t (i:Int)=0/\fw t c (i:Int)=(Sh.cp (fun d=>decide (d=c)) t i:Nat):=by
 have e:ef t (i:Int)=0:=by unfold ef;rw[if_neg (by omega)]
 refine⟨e,?_⟩;unfold fw;rw[if_pos e,Int.toNat_natCast]
theorem ze{t:List Nat}{c K:Nat}(h:K<Sh.cp (fun d=>decide (d=c)) t t.length):∃i,i<t.length/\gt t i=c/\Sh.cp (fun d=>decide (d=c)) t i=K/\ssE t c (K:Int)=0/\ssN t c (K:Int)=(i:Int):=by
 obtain⟨j,h1,h2,h3⟩:=rG h;have hk:mK t c (K:Int):=⟨by omega,by omega⟩;refine⟨j,h1,of_decide_eq_true h2,h3,by unfold ssE;rw[if_pos hk],?_⟩;have e:=Sh.mem_at (fun d=>decide (d=c)) t j t.length h1 h2
 rw[h3]at e;unfold ssN;rw[if_pos hk,Int.toNat_natCast,List.getD_eq_getElem?_getD,e];rfl
theorem th{t:List Nat}{c:Nat}{K:Int}(h:¬(0<=K/\K<(Sh.cp (fun d=>decide (d=c)) t t.length:Int))):ssE t c K=3/\ssN t c K=0:=by
 unfold ssE ssN;exact⟨if_neg h,if_neg h⟩
theorem pi(t:List Nat)(c i:Nat):Sh.cp (fun d=>decide (d=c)) t i<=i:=Sh.cp_le _ _ _
def nums(t:List Nat):List Int:=t.map fun(y:Nat)=>(y:Int)
theorem conv{w:World}{ao:Option Addr}{t:List Nat}(cap:Nat)(h:Bd w ao t):(convert 22 9 (.slice ao t.length cap)).run prog w=.ok (.string (strOfNums (nums t))) w:=by
 by_cases h0:0<t.length
 .obtain⟨b,off,rfl,_,hc⟩:=h h0;refine run_convert_bytes_arg w 22 5 underlying22 underlying5 b off t.length cap (nums t) (by simp[nums]) (fun i hi=>?_) 9 underlying9;rw[hc i hi]
  have:(nums t).getD i 0=((gt t i:Nat):Int):=by
   unfold nums gt;rw[List.getD_eq_getElem?_getD,List.getD_eq_getElem?_getD,List.getElem?_map,List.getElem?_eq_getElem hi];rfl
  rw[this]
 .obtain rfl:t=[]:=List.eq_nil_of_length_eq_zero (by omega);cases ao with
  | none=>exact run_convert_bytes_nil w 22 5 underlying22 underlying5 0 cap 9 underlying9
  | some a=>exact run_convert_bytes_back w 22 9 5 a cap [] underlying22 underlying5 underlying9 (fun j hj=>absurd hj (by simp))
def ab:List Nat:=[97,98,114,97,99,97,100,97,98,114,97]
theorem I3:iR ab:=fun i=>by
 by_cases h:i<11
 .have:∀j:Fin 11,gt ab j.val<256:=by decide
  exact this ⟨i,h⟩
 .rw[js _ _ (by show 11<=i;omega)];decide
theorem Kh:gt ab 4=99/\Sh.cp (fun d=>decide (d=97)) ab 8=4/\gt ab 9=114/\Sh.cp (fun d=>decide (d=114)) ab 9=1/\Sh.cp (fun d=>decide (d=122)) ab 11=0:=by decide +kernel
theorem Kf:strOfNums (nums ab)=⟨#[97,98,114,97,99,97,100,97,98,114,97]⟩:=by rfl
theorem Ki(w:World):Bd (w.alloc (.cells #[.int .u8 97,.int .u8 98,.int .u8 114,.int .u8 97,.int .u8 99,.int .u8 97,.int .u8 100,.int .u8 97,.int .u8 98,.int .u8 114,.int .u8 97] 5 (11,12))) (some ⟨w.heap.size,0,none⟩) ab:=by
 intro _;refine⟨w.heap.size,0,rfl,by simp,fun i hi=>?_⟩;have hi:i<11:=hi;match i,hi with
 | 0,_=>rw[World.cell?_alloc_mark];simp[ab,gt]
 | 1,_=>rw[World.cell?_alloc_mark];simp[ab,gt]
 | 2,_=>rw[World.cell?_alloc_mark];simp[ab,gt]
 | 3,_=>rw[World.cell?_alloc_mark];simp[ab,gt]
 | 4,_=>rw[World.cell?_alloc_mark];simp[ab,gt]
 | 5,_=>rw[World.cell?_alloc_mark];simp[ab,gt]
 | 6,_=>rw[World.cell?_alloc_mark];simp[ab,gt]
 | 7,_=>rw[World.cell?_alloc_mark];simp[ab,gt]
 | 8,_=>rw[World.cell?_alloc_mark];simp[ab,gt]
 | 9,_=>rw[World.cell?_alloc_mark];simp[ab,gt]
 | 10,_=>rw[World.cell?_alloc_mark];simp[ab,gt]
end Go.Proofs.YtleegaihbgbcjabGreatDoor
namespace Go.Proofs.YtleegaihbgbcjabGreatDoor
open Go.RowKit Num
theorem yO(x:Int)(h:(Lit.int .u64 x).wf=true):0<=x/\x<18446744073709551616:=by
 simp only[Lit.wf,IntKind.min,IntKind.max,IntKind.signed,IntKind.bits,Bool.and_eq_true]at h;simp at h;omega
theorem rf(x:Int)(h:(Lit.int .i64 x).wf=true): -9223372036854775808<=x/\x<=9223372036854775807:=by
 simp only[Lit.wf,IntKind.min,IntKind.max,IntKind.signed,IntKind.bits,Bool.and_eq_true,decide_eq_true_eq]at h;simp at h;omega
theorem Dy(x:Int)(h0:0<=x)(h1:x<18446744073709551616)(w:World):
  Qx 177 #[.int .u64 x] w (.int .i64 (fB x)):=by
 obtain⟨n,rfl⟩:=Int.eq_ofNat_of_zero_le h0;go_enter func177,ntmps177;go_wp2;go_ret;refine⟨congrArg Ending.returned (congrArg (Value.int IntKind.i64) ?_),rfl⟩;unfold fB;rw[Int.toNat_natCast]
 exact Cn n (by omega) _ _ _ _ _ _ rfl rfl rfl rfl rfl rfl
set_option maxRecDepth 100000 in
theorem Fy(x:Int)(h0:0<=x)(h1:x<18446744073709551616)(w:World):
  Qx 204 #[.int .u64 x] w (.int .i64 (bI x)):=by
 have hs:=Lib.len8tab_size;go_enter func204,ntmps204;go_wp2;all_goals (go_ret;refine⟨congrArg Ending.returned (congrArg (Value.int IntKind.i64) ?_),rfl⟩)
 .exact kF x (x/4294967296/65536/256) 56 56 rfl (by omega) (by omega) (by omega) _
 .exact kF x (x/4294967296/65536) 48 48 rfl (by omega) (by omega) (by omega) _
 .exact kF x (x/4294967296/256) 40 40 rfl (by omega) (by omega) (by omega) _
 .exact kF x (x/4294967296) 32 32 rfl (by omega) (by omega) (by omega) _
 .exact kF x (x/65536/256) 24 24 rfl (by omega) (by omega) (by omega) _
 .exact kF x (x/65536) 16 16 rfl (by omega) (by omega) (by omega) _
 .exact kF x (x/256) 8 8 rfl (by omega) (by omega) (by omega) _
 .exact Fx x _
theorem mO(n:Int)(w:World):
  Qx 148 #[.int .i64 n] w (.int .u64 (maskI n)):=by
 by_cases c:n<=0
 .go_enter func148,ntmps148;go_wp2;go_ret;exact⟨congrArg Ending.returned (congrArg (Value.int IntKind.u64) (EK n c).symm),rfl⟩
 .have c':0<=n:=by omega
  go_enter func148,ntmps148;go_wp2;go_ret;exact⟨congrArg Ending.returned (congrArg (Value.int IntKind.u64) (EO n)),rfl⟩
theorem nZ(x:Int)(h0:0<=x)(h1:x<18446744073709551616)(w:World):
  Qx 138 #[.int .u64 x] w (.int .i64 (fB x)):=by
 go_enter func138,ntmps138;go_wp2_with (go_at_call 177;refine(Dy _ ?_ ?_ _).mono ?_;exact h0;exact h1;rintro e w' ⟨rfl,rfl⟩);go_ret;exact⟨rfl,rfl⟩
theorem qX(x:Int)(h0:0<=x)(h1:x<18446744073709551616)(w:World):
  Qx 183 #[.int .u64 x] w (.int .i64 (bI x)):=by
 go_enter func183,ntmps183;go_wp2_with (go_at_call 204;refine(Fy _ ?_ ?_ _).mono ?_;exact h0;exact h1;rintro e w' ⟨rfl,rfl⟩);go_ret;exact⟨rfl,rfl⟩
theorem nT(x n:Int)(h0:0<=x)(h1:x<18446744073709551616)(w:World):
  Qx 145 #[.int .u64 x,.int .i64 n] w (.int .i64 (dH x n)):=by
 have hb:=J4 x n h0 h1;go_enter func145,ntmps145
 go_wp2_with (first | (go_at_call 148;refine(mO _ _).mono ?_;rintro e w' ⟨rfl,rfl⟩) | (go_at_call 138;refine(nZ _ ?_ ?_ _).mono ?_;exact hb.1;exact hb.2;rintro e w' ⟨rfl,rfl⟩));go_ret
 exact⟨congrArg Ending.returned (congrArg (Value.int IntKind.i64) (Cm x n h0 h1)),rfl⟩
theorem tk(x k:Int)(h0:0<=x)(h1:x<18446744073709551616)(w:World):
  Qx 194 #[.int .u64 x,.int .i64 k] w (.int .i64 (jf x k)):=by
 go_enter func194,ntmps194;go_wp2
 go_loop [5,7] (fun b i=>∃p c:Nat,p<=64/\c<=p/\i=.int .i64 p/\b=.int .i64 c/\Hid (c=cnt x.toNat p/\selGo x.toNat k (64-p)=selGo x.toNat k 64))
  (fun _ i=>64-(intOf i).toNat)
 case atStart=>exact⟨0,0,by omega,by omega,rfl,rfl,⟨rfl,rfl⟩⟩
 case round=>
  obtain⟨p,c,hp,hc,rfl,rfl,H⟩:=hrel;go_wp2
  .have hlt:(p:Int)<64:=by assumption
   have ht:(bits BinOp.and IntKind.u64 (x/2^p) 1==0)=true:=by assumption
   rw[kQ x p h0 h1]at ht;simp only[beq_iff_eq]at ht;obtain⟨g1,g2⟩:=H.out;have on:=pU x.toNat k p (by omega) (by omega);go_round
   case rel=>
    refine⟨p+1,c,by omega,by omega,by go_num,rfl,?_,?_⟩
    .simp only[cnt];omega
    .rw[<-on];exact g2
   case measure=>simp only[intOf];omega
  .have hlt:(p:Int)<64:=by assumption
   have ht:(bits BinOp.and IntKind.u64 (x/2^p) 1==0)=false:=by assumption
   have hk:((c:Int)==k)=true:=by assumption
   rw[kQ x p h0 h1]at ht;simp only[beq_eq_false_iff_ne,ne_eq,beq_iff_eq]at ht hk;obtain⟨g1,g2⟩:=H.out;have here:=tq x.toNat k p (by omega) (by omega) (by omega);go_ret
   refine⟨congrArg Ending.returned (congrArg (Value.int IntKind.i64) ?_),rfl⟩;unfold jf;rw[<-g2,here]
  .have hlt:(p:Int)<64:=by assumption
   have ht:(bits BinOp.and IntKind.u64 (x/2^p) 1==0)=false:=by assumption
   have hk:((c:Int)==k)=false:=by assumption
   rw[kQ x p h0 h1]at ht;simp only[beq_eq_false_iff_ne,ne_eq]at ht hk;obtain⟨g1,g2⟩:=H.out;have on:=pU x.toNat k p (by omega) (by omega);go_round
   case rel=>
    refine⟨p+1,c+1,by omega,by omega,by go_num,by go_num,?_,?_⟩
    .simp only[cnt];omega
    .rw[<-on];exact g2
   case measure=>simp only[intOf];omega
  .have hge:(64:Int)<=(p:Int):=by assumption
   obtain⟨g1,g2⟩:=H.out;go_ret;refine⟨?_,rfl⟩;unfold jf;rw[<-g2,show 64-p=0 by omega];rfl
theorem A0(n:Int)(_h0: -9223372036854775808<=n)(_h1:n<=9223372036854775807)(w:World):
  Qx 113 #[.int .i64 n] w (.int .u64 (maskI n)):=by
 go_enter func113,ntmps113;go_wp2
 go_loop [3,4] (fun b i=>∃p:Nat,p<=64/\i=.int .i64 p/\b=.int .u64 (maskI p)/\Hid (p=0\/(p:Int)<=n))
  (fun _ i=>64-(intOf i).toNat)
 case atStart=>exact⟨0,by omega,rfl,rfl,Or.inl rfl⟩
 case round=>
  obtain⟨p,hp,rfl,rfl,H⟩:=hrel;go_wp2
  .have hlt:(p:Int)<64:=by assumption
   have hn:(p:Int)<n:=by assumption
   have g:=EM p (by omega);go_round
   case rel=>exact⟨p+1,by omega,by go_num,by rw[g],Or.inr (by omega)⟩
   case measure=>simp only[intOf];omega
  .have hn:n<=(p:Int):=by assumption
   go_ret;exact⟨congrArg Ending.returned (congrArg (Value.int IntKind.u64) (vg n p H.out (Or.inl hn) hp)),rfl⟩
  .have hn:(64:Int)<=(p:Int):=by assumption
   go_ret;exact⟨congrArg Ending.returned (congrArg (Value.int IntKind.u64) (vg n p H.out (Or.inr (by omega)) hp)),rfl⟩
theorem AW(x n:Int)(h0:0<=x)(_h1:x<18446744073709551616)(_h2: -9223372036854775808<=n)(_h3:n<=9223372036854775807)(w:World):
  Qx 160 #[.int .u64 x,.int .i64 n] w (.int .i64 (dH x n)):=by
 go_enter func160,ntmps160;go_wp2
 go_loop [5,6] (fun b i=>∃p c:Nat,p<=64/\c<=p/\i=.int .i64 p/\b=.int .i64 c/\Hid (c=cnt x.toNat p/\(p=0\/(p:Int)<=n)))
  (fun _ i=>64-(intOf i).toNat)
 case atStart=>exact⟨0,0,by omega,by omega,rfl,rfl,⟨rfl,Or.inl rfl⟩⟩
 case round=>
  obtain⟨p,c,hp,hc,rfl,rfl,H⟩:=hrel;go_wp2
  .have hlt:(p:Int)<64:=by assumption
   have hn:(p:Int)<n:=by assumption
   have ht:((x/2^p).tmod 2==1)=true:=by assumption
   rw[jZ x p h0]at ht;simp only[beq_iff_eq]at ht;obtain⟨g1,g2⟩:=H.out;go_round
   case rel=>
    refine⟨p+1,c+1,by omega,by omega,by go_num,by go_num,?_,Or.inr (by omega)⟩;simp only[cnt];omega
   case measure=>simp only[intOf];omega
  .have hlt:(p:Int)<64:=by assumption
   have hn:(p:Int)<n:=by assumption
   have ht:((x/2^p).tmod 2==1)=false:=by assumption
   rw[jZ x p h0]at ht;simp only[beq_eq_false_iff_ne,ne_eq]at ht;obtain⟨g1,g2⟩:=H.out;go_round
   case rel=>
    refine⟨p+1,c,by omega,by omega,by go_num,rfl,?_,Or.inr (by omega)⟩;simp only[cnt];omega
   case measure=>simp only[intOf];omega
  .have hn:n<=(p:Int):=by assumption
   obtain⟨g1,g2⟩:=H.out;go_ret;refine⟨congrArg Ending.returned (congrArg (Value.int IntKind.i64) ?_),rfl⟩;rw[g1];exact tU x n p g2 (Or.inl hn) hp
  .have hn:(64:Int)<=(p:Int):=by assumption
   obtain⟨g1,g2⟩:=H.out;go_ret;refine⟨congrArg Ending.returned (congrArg (Value.int IntKind.i64) ?_),rfl⟩;rw[g1];exact tU x n p g2 (Or.inr (by omega)) hp
theorem qe(x:Int)(h0:0<=x)(h1:x<18446744073709551616)(w:World):
  Qx 162 #[.int .u64 x] w (.int .i64 (bI x)):=by
 go_enter func162,ntmps162;go_wp2
 go_loop [3] (fun i=>∃p:Nat,p<=64/\i=.int .i64 p/\Hid (x.toNat<2^p))
  (fun i=>(intOf i).toNat)
 case atStart=>exact⟨64,by omega,rfl,show x.toNat<2^64 by omega⟩
 case round=>
  obtain⟨p,hp,rfl,H⟩:=hrel;go_wp2
  .have hlt:0<p:=by assumption
   have ht:((x/2^(p-1)).tmod 2==1)=true:=by assumption
   rw[jZ x (p-1) h0]at ht;simp only[beq_iff_eq]at ht;have g:=H.out;have l:=qW x.toNat (p-1) (by rw[show p-1+1=p by omega];exact g) (by omega);go_ret
   refine⟨congrArg Ending.returned (congrArg (Value.int IntKind.i64) ?_),rfl⟩;unfold bI;omega
  .have hlt:0<p:=by assumption
   have ht:((x/2^(p-1)).tmod 2==1)=false:=by assumption
   rw[jZ x (p-1) h0]at ht;simp only[beq_eq_false_iff_ne,ne_eq]at ht;have g:=H.out;have l:=vB x.toNat (p-1) (by rw[show p-1+1=p by omega];exact g) (by omega);go_round
   case rel=>exact⟨p-1,by omega,by go_num,l⟩
   case measure=>simp only[intOf];omega
  .have hlt:¬0<p:=by assumption
   have g:x.toNat<2^p:=H.out;have l:=iM x.toNat p g;go_ret;refine⟨congrArg Ending.returned (congrArg (Value.int IntKind.i64) ?_),rfl⟩;unfold bI;omega
open Go.RowKit Num Bit
def Wd(w:World)(ao:Option Addr)(xs:List Nat):Prop:=
 0<xs.length->∃b off,ao=some ⟨b,off,none⟩/\b<w.heap.size/\∀i,i<xs.length->w.cell? ⟨b,off+i,none⟩=some (.int .u64 (gt xs i))
theorem Wd.keep{w w':World}{ao:Option Addr}{xs:List Nat}(h:Wd w ao xs)(hb:Below w.heap.size w w'):Wd w' ao xs:=by
 intro hi;obtain⟨b,off,e,hlt,hc⟩:=h hi;exact⟨b,off,e,Nat.lt_of_lt_of_le hlt hb.size,fun i hi=>(hb.cell (p:=⟨b,off+i,none⟩) hlt).trans (hc i hi)⟩
theorem below_alloc(w:World)(o:Obj):Below w.heap.size w (w.alloc o):=(Below.refl _ _).alloc (Nat.le_refl _) _
theorem aU{w W:World}{o:Obj}(h:W=w.alloc o):Below w.heap.size w W:=h ▸ below_alloc w o
theorem cZ{w W:World}{o p:Obj}(h:W=(w.alloc o).alloc p):Below w.heap.size w W:=h ▸ (below_alloc w o).alloc (by simp) p
theorem cG{w w':World}{a b:Value}{T:TypeId}(hb:Below (w.alloc (.cells #[a,b] T)).heap.size (w.alloc (.cells #[a,b] T)) w'):
  w'.cell? ⟨w.heap.size,0,none⟩=some a/\w'.cell? ⟨w.heap.size,1,none⟩=some b/\w.heap.size<w'.heap.size/\Below w.heap.size w w':=by
 have hz:(w.alloc (.cells #[a,b] T)).heap.size=w.heap.size+1:=by simp
 refine⟨?_,?_,?_,?_⟩
 .rw[hb.cell (p:=⟨w.heap.size,0,none⟩) (by simp)];simp
 .rw[hb.cell (p:=⟨w.heap.size,1,none⟩) (by simp)];simp
 .have:=hb.size;omega
 .exact(below_alloc w _).trans (hb.mono (by omega))
theorem dq{a b:Bool}(h:a=b):Ending.returned (.bool a)=.returned (.bool b):=by rw[h]
theorem dy{k:IntKind}{a b:Int}(h:a=b):Ending.returned (.int k a)=.returned (.int k b):=by rw[h]
theorem dm{a b c d:Value}(h:a=b)(h2:c=d):Ending.returned (.tuple #[a,c])=.returned (.tuple #[b,d]):=by rw[h,h2]
end Go.Proofs.YtleegaihbgbcjabGreatDoor
