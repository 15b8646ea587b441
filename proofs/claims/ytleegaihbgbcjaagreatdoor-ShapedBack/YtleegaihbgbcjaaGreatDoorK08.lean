import Derived.Test.YtleegaihbgbcjaaGreatDoorK04
import Derived.Deep.CutBlock
import Derived.Stop.Asserts
set_option linter.unusedVariables false
set_option linter.unusedSimpArgs false
set_option maxRecDepth 100000
set_option maxHeartbeats 16000000
open Go.Proofs.Tryz
namespace Go.Proofs.YtleegaihbgbcjaaGreatDoor
open Go.RowKit Num Bit
def iv(l:List Int):List Value:=l.map fun n:Int=>Value.int .i64 n
theorem mj(l:List Int):(iv l).length=l.length:=by simp[iv]
theorem Fh(l:List Int)(v:Int):iv l++[.int .i64 v]=iv (l++[v]):=by simp[iv]
theorem oe(l:List Int)(i:Nat)(h:i<l.length):(iv l)[i]?=some (.int .i64 (gi l i)):=by
 unfold iv;rw[List.getElem?_map,qK l i h];rfl
theorem yB(N:Int)(xs:List Nat)(q:Nat):dW N xs (q+1)=dW N xs q++[fG N xs q]:=by
 unfold dW;rw[List.range_succ,List.map_append];rfl
theorem uz{w:World}{base n c:Nat}{ao:Option Addr}{l:List Int}(h:w.ownsRow base 3 1 (.slice ao n c) n (iv l)):Nd w ao l:=by
 intro h0;have hlen:(iv l).length=n*1:=h.1;rw[mj]at hlen;have hk:=fun k hk=>h.lt k hk;have hc:=fun g hg=>h.cells (g:=g) hg;obtain⟨_,⟨e,e2⟩ | ⟨g,cap,cur,e,_⟩⟩:=h
 .omega
 .simp only[Value.slice.injEq]at e;obtain⟨rfl,_,rfl⟩:=e;refine⟨g,0,rfl,(hk g rfl).2,fun i hi=>?_⟩;rw[<-hc g rfl i _ (oe l i hi)];unfold Addr.add;split
  .subst_vars;rfl
  .simp
theorem nC{w:World}{base e n:Nat}{v u:Value}{vs:List Value}{a:Addr}(h:w.ownsRow base e 1 v n vs)(ha:a.block<base):(w.setCell a u).ownsRow base e 1 v n vs:=by
 obtain⟨h1,h2 | ⟨g,cap,cur,e1,e2,hh,r⟩⟩:=h
 .exact⟨h1,.inl h2⟩
 .exact⟨h1,.inr ⟨g,cap,cur,e1,e2,(Below.heap_setCell w a u g (by omega)).trans hh,r⟩⟩
def Kh(w:World)(bs:Nat)(l:List Int):Prop:=∀i,i<l.length->w.cell? ⟨bs,i,none⟩=some (.int .i64 (gi l i))
theorem lh{base:Nat}{w w':World}(h:Below base w w')(b i:Nat)(v:Value)(hb:base<=b):Below base w (w'.setCell ⟨b,i,none⟩ v):=h.setCell hb _
theorem Hid.mk'{p:Prop}(h:p):Hid p:=h
structure BI (w wr:World) (m n cap:Nat) (ao:Option Addr) (g:Nat) (sv tv:Value):Prop where
 b1:aa wr w.heap.size [.int .i64 m,.slice ao n cap] 33
 b2:aa wr (w.heap.size+1) [.int .i64 0,.slice none 0 0,.slice none 0 0,.slice none 0 0] 36
 bx:aa wr g [.int .i64 m,.slice ao n cap,sv,tv] 36
 hg:w.heap.size+1<g
 hw:Below w.heap.size w wr
structure lm (base:Nat) (w:World) (bo:Option Addr) (X:List Nat) (bc:Nat) (so:Option Addr) (S:List Int) (sc:Nat) (tO:Option Addr) (T:List Int) (tc:Nat):Prop where
 x:Wd w bo X
 xc:X.length<=bc
 s:Nd w so S
 sc:S.length<=sc
 t:Nd w tO T
 tc:T.length<=tc
 sn:Fr base so
 tn:Fr base tO
structure eQ (w:World) (N:Int) (ao:Option Addr) (xs:List Nat) (cap:Nat) (so:Option Addr) (su:List Int) (sc:Nat) (tO:Option Addr) (sb:List Int) (tc:Nat):Prop where
 n: -9223372036854775808<=N/\N<=9223372036854775807
 x:Wd w ao xs
 f:Fit xs
 c:xs.length<=cap
 l:xs.length<=1048576
 s:Nd w so su
 sf:eH su
 sc:su.length<=sc
 sl:su.length<=1048576
 t:Nd w tO sb
 tf:eH sb
 tc:sb.length<=tc
 tl:sb.length<=1048576
theorem eQ.keep{w w':World}{N:Int}{ao:Option Addr}{xs:List Nat}{cap:Nat}{so:Option Addr}{su:List Int}{sc:Nat}{tO:Option Addr}{sb:List Int}{tc:Nat}(h:eQ w N ao xs cap so su sc tO sb tc)(hb:Below w.heap.size w w'):eQ w' N ao xs cap so su sc tO sb tc:=
 ⟨h.n,h.x.keep hb,h.f,h.c,h.l,h.s.keep hb,h.sf,h.sc,h.sl,h.t.keep hb,h.tf,h.tc,h.tl⟩
structure rQ (w:World) (N:Int) (ao:Option Addr) (xs:List Nat) (cap:Nat) (so:Option Addr) (su:List Int) (sc:Nat) (tO:Option Addr) (sb:List Int) (tc:Nat):Prop where
 n: -9223372036854775808<=N/\N<=9223372036854775807
 x:Wd w ao xs
 f:Fit xs
 c:xs.length<=cap
 s:Nd w so su
 sf:eH su
 sc:su.length<=sc
 t:Nd w tO sb
 tf:eH sb
 tc:sb.length<=tc
theorem rQ.plin{w:World}{N:Int}{ao:Option Addr}{xs:List Nat}{cap:Nat}{so:Option Addr}{su:List Int}{sc:Nat}{tO:Option Addr}{sb:List Int}{tc:Nat}(h:rQ w N ao xs cap so su sc tO sb tc)(h1:xs.length<=1048576)(h2:su.length<=1048576)(h3:sb.length<=1048576):eQ w N ao xs cap so su sc tO sb tc:=
 ⟨h.n,h.x,h.f,h.c,h1,h.s,h.sf,h.sc,h2,h.t,h.tf,h.tc,h3⟩
theorem GD(N:Int)(xs:List Nat):eH (supL N xs):=by
 intro i;by_cases c:i<(supL N xs).length
 .unfold supL at c⊢;rw[uY]at c;rw[oA _ _ _ _ c];have:=pt N xs i;omega
 .unfold gi;rw[List.getD_eq_getElem?_getD,List.getElem?_eq_none (by omega)];decide
theorem GE(N:Int)(xs:List Nat):eH (subL N xs):=by
 intro i;by_cases c:i<(subL N xs).length
 .unfold subL at c⊢;rw[jn]at c;rw[kR _ _ _ _ c];have:=sP N xs i;omega
 .unfold gi;rw[List.getD_eq_getElem?_getD,List.getElem?_eq_none (by omega)];decide
theorem lm.plin{base:Nat}{w:World}{bo:Option Addr}{bc:Nat}{so:Option Addr}{sc:Nat}{tO:Option Addr}{tc:Nat}(N:Int)(xs:List Nat)(hn: -9223372036854775808<=N/\N<=9223372036854775807)(hf:Fit xs)(hl:xs.length<=1048576)(h:lm base w bo (eZ N xs) bc so (fa N xs) sc tO (e_ N xs) tc):
  eQ w (iG N xs) bo (eZ N xs) bc so (fa N xs) sc tO (e_ N xs) tc:=by
 have e1: -9223372036854775808<=iG N xs/\iG N xs<=9223372036854775807:=by unfold iG;split<;>omega
 have e2:Fit (eZ N xs):=by
  unfold eZ;split
  .exact hf
  .intro i;unfold gt;simp
 have e3:(eZ N xs).length<=1048576:=by
  unfold eZ;split
  .exact hl
  .simp
 have e4:eH (fa N xs):=by
  unfold fa;split
  .exact GD N xs
  .intro i;unfold gi;simp
 have e5:(fa N xs).length<=1048576:=by
  unfold fa;split
  .rename_i hk;obtain⟨h0,h1,_,_⟩:=bp N xs hk;rw[mh];omega
  .simp
 have e6:eH (e_ N xs):=by
  unfold e_;split
  .exact GE N xs
  .intro i;unfold gi;simp
 have e7:(e_ N xs).length<=1048576:=by
  unfold e_;split
  .rw[jL];omega
  .simp
 exact⟨e1,h.x,e2,h.xc,e3,h.s,e4,h.sc,e5,h.t,e6,h.tc,e7⟩
end Go.Proofs.YtleegaihbgbcjaaGreatDoor
namespace Go.Proofs.YtleegaihbgbcjaaGreatDoor
open Go.RowKit Go.Extern.Stop Go.Stop Go.Extern
def ET(w:World):Prop:=w.cell? ⟨0,0,none⟩=some (.iface 348 (.agg #[.pointer (some ⟨1,314,none⟩)]))
end Go.Proofs.YtleegaihbgbcjaaGreatDoor
namespace Go.Proofs.YtleegaihbgbcjaaGreatDoor
open Num
namespace Bit
theorem D_(x m:Nat):Go.bitLen x<=m↔x<2^m:=by
 constructor
 .intro h;by_cases hx:x=0
  .subst hx;exact Nat.two_pow_pos m
  .refine Nat.lt_of_not_le fun hc=>?_
   have h1:¬x<2^Go.bitLen x:=fun h2=>by
    have:=Nat.pow_le_pow_right (n:=2) (by decide) h;omega
   have key:∀d,x<2^(Go.bitLen x+d)->False:=by
    intro d;induction d with
    | zero=>exact h1
    | succ d ih=>
     intro h2;by_cases hb:x/2^(Go.bitLen x+d)%2=1
     .have:=u9 x (Go.bitLen x+d) h2 hb;omega
     .exact ih (Eb x _ h2 hb)
   refine key x ?_;exact Nat.lt_of_lt_of_le (Nat.lt_two_pow_self (n:=x)) (Nat.pow_le_pow_right (by decide) (by omega))
 .exact kG x m
theorem qu(x m:Nat):df (x:Int)<=(m:Int)↔x<2^m:=by
 unfold df;rw[Int.toNat_natCast,<-D_];omega
def aZ(N W M:Int)(xs:List Nat):Bool:=decide (1<=W/\W<=64/\0<=N/\N*W=M)&&ar M xs
theorem iL(N W M:Int)(xs:List Nat)(h:aZ N W M xs=true):1<=W/\W<=64/\0<=N/\N*W=M/\ar M xs=true/\0<=M/\M<=1048576/\N<=M:=by
 unfold aZ at h;rw[Bool.and_eq_true,decide_eq_true_eq]at h;obtain⟨⟨a,b,c,d⟩,e⟩:=h;obtain⟨f,g,_,_⟩:=bp M xs e;refine⟨a,b,c,d,e,f,g,?_⟩;have:=Int.mul_le_mul_of_nonneg_left a c;omega
def numAt(W:Nat)(xs:List Nat)(i:Nat):Nat:=cO W (fun k=>bitAt xs (i*W+k))
def gu(N W M:Int)(xs:List Nat)(i:Int):Int:=if aZ N W M xs=false then 2 else if i<0\/N<=i then 3 else 0
def mC(N W M:Int)(xs:List Nat)(i:Int):Nat:=if gu N W M xs i=0 then numAt W.toNat xs i.toNat else 0
def iK(W:Int)(l:List Nat):Int:=if W<1\/64<W\/1048576<(l.length:Int)*W\/¬(∀j,j<l.length->df (gt l j)<=W)then 2 else 0
def mkS(l:List Nat)(W k:Nat):List Nat:=rowOf (l.length*W) (fun j=>decide (j<k*W)&&(gt l (j/W)).testBit (j%W))
def wm(l:List Nat):Nat->Nat
 | 0=>1
 | k+1=>max (wm l k) (Go.bitLen (gt l k))
theorem vS(N W M:Int)(xs:List Nat)(i:Int)(hE:gu N W M xs i=0):aZ N W M xs=true/\0<=i/\i<N:=by
 unfold gu at hE;cases h:aZ N W M xs with
 | false=>rw[if_pos h]at hE;omega
 | true=>
  rw[if_neg (by simp[h])]at hE;by_cases c:i<0\/N<=i
  .rw[if_pos c]at hE;omega
  .exact⟨rfl,by omega,by omega⟩
theorem FH(N W M:Int)(xs:List Nat)(i:Int)(hk:aZ N W M xs=true)(h0:0<=i)(h1:i<N):gu N W M xs i=0:=by
 unfold gu;rw[if_neg (by simp[hk]),if_neg (by omega)]
theorem ww(N W M i:Int)(a1:1<=W)(a2:W<=64)(a3:0<=N)(a4:N*W=M)(a7:M<=1048576)(i0:0<=i)(i1:i<N):0<=i*W/\i*W+W<=M/\i*W<=M-W/\i*W<=1048576:=by
 have h1:=Int.mul_nonneg i0 (show 0<=W by omega);have h2:=Int.mul_le_mul_of_nonneg_right (show i+1<=N by omega) (show 0<=W by omega);rw[Int.add_mul,Int.one_mul]at h2;omega
theorem Ge(N W M:Int)(xs:List Nat)(i:Int)(hk:aZ N W M xs=true)(i0:0<=i)(i1:i<N):slcX M xs (i*W) W=mC N W M xs i/\bk M xs (i*W) W=gu N W M xs i:=by
 obtain⟨a1,a2,a3,a4,a5,a6,a7,a8⟩:=iL N W M xs hk;obtain⟨q1,q2,q3,q4⟩:=ww N W M i a1 a2 a3 a4 a7 i0 i1;have e:=FH N W M xs i hk i0 i1
 have e2:bk M xs (i*W) W=0:=by
  unfold bk;rw[if_neg (by simp[a5];omega),if_neg (by omega)]
 refine⟨?_,by rw[e,e2]⟩;unfold slcX mC numAt;rw[if_pos e,if_pos e2,Int.toNat_mul i0 (by omega)]
/-! What lay makes of the words. -/
theorem sG(m r:Nat)(hm:m<18446744073709551616)(hr:r<64):(18446744073709551615-m).testBit r=!m.testBit r:=by
 have h:=Nat.testBit_two_pow_sub_succ (n:=64) (x:=m) (by rw[show(2:Nat)^64=18446744073709551616 from rfl];exact hm) r
 rw[show(2:Nat)^64-(m+1)=18446744073709551615-m by rw[show(2:Nat)^64=18446744073709551616 from rfl];omega]at h;rw[h];simp[hr]
def fe(ys:List Nat)(p W v:Nat):List Nat:=ys.set (p/64) ((gt ys (p/64)&&&(18446744073709551615-(2^W-1)*2^(p%64)%18446744073709551616))|||v*2^(p%64)%18446744073709551616)
def fd(ys:List Nat)(p W v:Nat):List Nat:=
 if 64-p%64<W then (fe ys p W v).set (p/64+1) ((gt ys (p/64+1)&&&(18446744073709551615-(2^W-1)/2^(64-p%64)))|||v/2^(64-p%64))else fe ys p W v
theorem D1(ys:List Nat)(p W v:Nat):(fe ys p W v).length=ys.length:=by simp[fe]
theorem D0(ys:List Nat)(p W v:Nat):(fd ys p W v).length=ys.length:=by
 unfold fd;split<;>simp[fe]
theorem JD(ys:List Nat)(p W v:Nat)(hW:1<=W)(hW2:W<=64)(hv:v<2^W)(hl:p+W<=64*ys.length)(i:Nat):
  bitAt (fd ys p W v) i=if p<=i/\i<p+W then v.testBit (i-p)else bitAt ys i:=by
 have hp:p/64<ys.length:=by omega
 have hm:(2:Nat)^W-1<18446744073709551616:=by
  have:=Nat.pow_le_pow_right (n:=2) (j:=64) (by decide) hW2;rw[show(2:Nat)^64=18446744073709551616 from rfl]at this;omega
 have hv0:∀j,W<=j->v.testBit j=false:=fun j hj=>Nat.testBit_lt_two_pow (Nat.lt_of_lt_of_le hv (Nat.pow_le_pow_right (by decide) hj))
 have first:∀r,r<64->((gt ys (p/64)&&&(18446744073709551615-(2^W-1)*2^(p%64)%18446744073709551616))|||v*2^(p%64)%18446744073709551616).testBit r=if p%64<=r/\r<p%64+W then v.testBit (r-p%64)else (gt ys (p/64)).testBit r:=by
  intro r hr;rw[Nat.testBit_or,Nat.testBit_and,sG _ _ (Nat.mod_lt _ (by decide)) hr,mV _ _ _ hr,mV _ _ _ hr,Nat.testBit_two_pow_sub_one];by_cases c:p%64<=r
  .by_cases c2:r<p%64+W
   .rw[if_pos ⟨c,c2⟩];simp[c,show r-p%64<W by omega]
   .rw[if_neg (by omega),hv0 (r-p%64) (by omega)];simp[show ¬r-p%64<W by omega]
  .rw[if_neg (by omega)];simp[c]
 have second:∀r,r<64->((gt ys (p/64+1)&&&(18446744073709551615-(2^W-1)/2^(64-p%64)))|||v/2^(64-p%64)).testBit r=if r+(64-p%64)<W then v.testBit (r+(64-p%64))else (gt ys (p/64+1)).testBit r:=by
  intro r hr;rw[Nat.testBit_or,Nat.testBit_and,sG _ _ (Nat.lt_of_le_of_lt (Nat.div_le_self _ _) hm) hr,lI,lI,Nat.testBit_two_pow_sub_one];by_cases c:r+(64-p%64)<W
  .rw[if_pos c,Nat.add_comm r (64-p%64)];simp[show 64-p%64+r<W by omega]
  .rw[if_neg c,hv0 (64-p%64+r) (by omega)];simp[show ¬64-p%64+r<W by omega]
 have at1:∀zs:List Nat,(∀j,j≠p/64->gt zs j=gt ys j)->gt zs (p/64)=((gt ys (p/64)&&&(18446744073709551615-(2^W-1)*2^(p%64)%18446744073709551616))|||v*2^(p%64)%18446744073709551616)->(p%64+W<=64\/i/64≠p/64+1)->bitAt zs i=if p<=i/\i<p+W then v.testBit (i-p)else bitAt ys i:=by
  intro zs h1 h2 h3;unfold bitAt;by_cases e:i/64=p/64
  .rw[e,h2,first _ (by omega)];by_cases c:p<=i/\i<p+W
   .rw[if_pos (by omega),if_pos c];congr 1;omega
   .rw[if_neg (by omega),if_neg c]
  .rw[h1 _ e,if_neg (by omega)]
 have g1:∀j,gt (fe ys p W v) j=if p/64=j then ((gt ys (p/64)&&&(18446744073709551615-(2^W-1)*2^(p%64)%18446744073709551616))|||v*2^(p%64)%18446744073709551616)else gt ys j:=fun j=>gt_set ys _ _ _ hp
 unfold fd;by_cases c:64-p%64<W
 .rw[if_pos c];have hp1:p/64+1<ys.length:=by omega
  have g2:∀j,gt ((fe ys p W v).set (p/64+1) ((gt ys (p/64+1)&&&(18446744073709551615-(2^W-1)/2^(64-p%64)))|||v/2^(64-p%64))) j=if p/64+1=j then ((gt ys (p/64+1)&&&(18446744073709551615-(2^W-1)/2^(64-p%64)))|||v/2^(64-p%64))else gt (fe ys p W v) j:=fun j=>gt_set _ _ _ _ (by rw[D1];exact hp1)
  by_cases e:i/64=p/64+1
  .unfold bitAt;rw[g2,if_pos e.symm,second _ (by omega)];by_cases d:p<=i/\i<p+W
   .rw[if_pos (by omega),if_pos d];congr 1;omega
   .rw[if_neg (by omega),if_neg d,e]
  .refine Eq.trans ?_ (at1 (fe ys p W v) (fun j hj=>by rw[g1,if_neg (by omega)]) (by rw[g1,if_pos rfl]) (.inr e));unfold bitAt;rw[g2,if_neg (by omega)]
 .rw[if_neg c];exact at1 (fe ys p W v) (fun j hj=>by rw[g1,if_neg (by omega)]) (by rw[g1,if_pos rfl]) (.inl (by omega))
theorem GI(ys:List Nat)(hf:Fit ys)(p W v:Nat)(hv:v<18446744073709551616):Fit (fd ys p W v):=by
 have h1:Fit (fe ys p W v):=qZ ys hf _ _ (lW _ _ (Nat.lt_of_le_of_lt Nat.and_le_left (hf _)) (Nat.mod_lt _ (by decide)));unfold fd;split
 .exact qZ _ h1 _ _ (lW _ _ (Nat.lt_of_le_of_lt Nat.and_le_left (hf _)) (Nat.lt_of_le_of_lt (Nat.div_le_self _ _) hv))
 .exact h1
theorem ku(l:List Nat)(W k:Nat):(mkS l W k).length=(l.length*W+63)/64:=cU _ _
theorem q_(l:List Nat)(W k:Nat):Fit (mkS l W k):=db _ _
theorem Du(l:List Nat)(W:Nat):rowOf (l.length*W) (fun _=>false)=mkS l W 0:=dc _ _ _ fun i _=>by simp
theorem ma(n W k:Nat)(h:k<n):k*W+W<=n*W:=by
 have:=Nat.mul_le_mul_right W (show k+1<=n by omega);rw[Nat.add_mul,Nat.one_mul]at this;exact this
theorem Dv(l:List Nat)(W k:Nat)(hW:1<=W)(hW2:W<=64)(hk:k<l.length)(hv:gt l k<2^W)(hv2:gt l k<18446744073709551616):fd (mkS l W k) (k*W) W (gt l k)=mkS l W (k+1):=by
 have hn:=ma l.length W k hk;refine jW _ _ _ (GI _ (q_ _ _ _) _ _ _ hv2) (by rw[D0,ku]) fun i _=>?_;rw[JD _ _ _ _ hW hW2 hv (by rw[ku];omega) i];unfold mkS
 rw[eD,Nat.add_mul,Nat.one_mul];by_cases c:k*W<=i/\i<k*W+W
 .rw[if_pos c]
  have e1:i/W=k:=by
   rw[Nat.div_eq_iff (by omega)];rw[Nat.mul_comm]at c;constructor<;>(try rw[Nat.mul_comm])<;>omega
  have e2:i%W=i-k*W:=by
   have:=Nat.div_add_mod i W;rw[e1,Nat.mul_comm]at this;omega
  rw[e1,e2];simp[c.2,show i<l.length*W by omega]
 .rw[if_neg c];by_cases d:i<k*W
  .simp[d,show i<k*W+W by omega]
  .simp[d,show ¬i<k*W+W by omega]
end Bit
open Go.RowKit Num Bit
theorem j6(W:Int)(h0:1<=W)(h1:W<=64)(w:World):
  Qx 282 #[.int .i64 W] w .nilIface:=by
 go_enter func282,ntmps282;go_wp2;go_ret;exact⟨rfl,rfl⟩
theorem x6(W:Int)(h:W<1\/64<W)(w:World):
  Calls prog 282 #[.int .i64 W] w fun e w'=>(∃s,e=.returned (.iface 329 (.agg #[.int .i64 2,.string s])))/\w'=w:=by
 rcases h with h | h
 .go_enter func282,ntmps282;go_wp2;go_ret;exact⟨⟨_,rfl⟩,rfl⟩
 .have h':¬W<1:=by omega
  go_enter func282,ntmps282;go_wp2;go_ret;exact⟨⟨_,rfl⟩,rfl⟩
theorem Dr(v W:Int)(h0:0<=v)(h1:v<18446744073709551616)(h:df v<=W)(w:World):
  Qx 283 #[.int .u64 v,.int .i64 W] w .nilIface:=by
 go_enter func283,ntmps283;go_wp2_with (go_at_call 271;refine(qt _ ?_ ?_ _).mono ?_;exact h0;exact h1;rintro e w' ⟨rfl,rfl⟩);go_ret;exact⟨rfl,rfl⟩
def gC(w:World)(b:Nat)(p q r s:Value):Prop:=b<w.heap.size/\w.cell? ⟨b,0,none⟩=some p/\w.cell? ⟨b,1,none⟩=some q/\w.cell? ⟨b,2,none⟩=some r/\w.cell? ⟨b,3,none⟩=some s
theorem gC.new{w w':World}{p q r s:Value}{T:TypeId}(hb:Below (w.alloc (.cells #[p,q,r,s] T)).heap.size (w.alloc (.cells #[p,q,r,s] T)) w'):gC w' w.heap.size p q r s/\Below w.heap.size w w':=by
 have hz:(w.alloc (.cells #[p,q,r,s] T)).heap.size=w.heap.size+1:=by simp
 refine⟨⟨?_,?_,?_,?_,?_⟩,?_⟩
 .have:=hb.size;omega
 .rw[hb.cell (p:=⟨w.heap.size,0,none⟩) (by simp)];simp
 .rw[hb.cell (p:=⟨w.heap.size,1,none⟩) (by simp)];simp
 .rw[hb.cell (p:=⟨w.heap.size,2,none⟩) (by simp)];simp
 .rw[hb.cell (p:=⟨w.heap.size,3,none⟩) (by simp)];simp
 .exact(below_alloc w _).trans (hb.mono (by omega))
theorem uM(N W M:Int)(ao:Option Addr)(xs:List Nat)(cap:Nat)(w:World)(hx:Wd w ao xs)(hk:aZ N W M xs=true):
  Qq 285 #[.agg #[.int .i64 N,.int .i64 W,.int .i64 M,.slice ao xs.length cap]] w .nilIface:=by
 have K:∀o,Wd (w.alloc o) ao xs:=fun o=>hx.keep (below_alloc w o);obtain⟨a1,a2,a3,a4,a5,a6,a7,a8⟩:=iL N W M xs hk;have d1:(N*W != M)=false:=by simpa using a4
 have hm:0<=N*W:=by omega
 have hm2:N*W<=1048576:=by omega
 clear a4 hk;go_enter func285,ntmps285
 go_wp2_with (first | (go_at_call 282;refine(j6 _ ?_ ?_ _).mono ?_;exact a1;exact a2;rintro e w' ⟨rfl,rfl⟩) | (go_at_call 147;refine mr (bi _ _ _ _ _ (K _)) fun w' hb=>?_;have KK:=gC.new hb;clear hb;obtain⟨⟨hz,c0,c1,c2,c3⟩,hw⟩:=KK))
 go_ret;exact⟨rfl,by assumption⟩
theorem DA(N W M:Int)(ao:Option Addr)(xs:List Nat)(cap:Nat)(w:World)(hx:Wd w ao xs)(hk:aZ N W M xs=false):
  Calls prog 285 #[.agg #[.int .i64 N,.int .i64 W,.int .i64 M,.slice ao xs.length cap]] w fun e w'=>(∃s,e=.returned (.iface 329 (.agg #[.int .i64 2,.string s])))/\Below w.heap.size w w':=by
 have K:∀o,Wd (w.alloc o) ao xs:=fun o=>hx.keep (below_alloc w o);by_cases c:W<1\/64<W
 .clear hk;go_enter func285,ntmps285;go_wp2_with (go_at_call 282;refine(x6 _ ?_ _).mono ?_;exact c;rintro e w' ⟨⟨s,rfl⟩,rfl⟩);go_ret;exact⟨⟨_,rfl⟩,below_alloc w _⟩
 have a1:1<=W:=by omega
 have a2:W<=64:=by omega
 clear c;cases hc:ar M xs with
 | false=>
  clear hk;go_enter func285,ntmps285
  go_wp2_with (first | (go_at_call 282;refine(j6 _ ?_ ?_ _).mono ?_;exact a1;exact a2;rintro e w' ⟨rfl,rfl⟩) | (go_at_call 147;refine mr (bi _ _ _ _ _ (K _)) fun w' hb=>?_;have KK:=gC.new hb;clear hb;obtain⟨⟨hz,c0,c1,c2,c3⟩,hw⟩:=KK))
  go_ret;exact⟨⟨_,rfl⟩,by assumption⟩
 | true=>
  obtain⟨m0,m1,_,_⟩:=bp M xs hc;by_cases n0:N<0
  .clear hk;go_enter func285,ntmps285
   go_wp2_with (first | (go_at_call 282;refine(j6 _ ?_ ?_ _).mono ?_;exact a1;exact a2;rintro e w' ⟨rfl,rfl⟩) | (go_at_call 147;refine mr (bi _ _ _ _ _ (K _)) fun w' hb=>?_;have KK:=gC.new hb;clear hb;obtain⟨⟨hz,c0,c1,c2,c3⟩,hw⟩:=KK))
   go_ret;exact⟨⟨_,rfl⟩,by assumption⟩
  have n0':0<=N:=by omega
  by_cases n1:M<N
  .clear hk n0;go_enter func285,ntmps285
   go_wp2_with (first | (go_at_call 282;refine(j6 _ ?_ ?_ _).mono ?_;exact a1;exact a2;rintro e w' ⟨rfl,rfl⟩) | (go_at_call 147;refine mr (bi _ _ _ _ _ (K _)) fun w' hb=>?_;have KK:=gC.new hb;clear hb;obtain⟨⟨hz,c0,c1,c2,c3⟩,hw⟩:=KK))
   go_ret;exact⟨⟨_,rfl⟩,by assumption⟩
  have n2:¬N*W=M:=fun e=>by unfold aZ at hk;rw[hc,show decide (1<=W/\W<=64/\0<=N/\N*W=M)=true by simp;omega]at hk;cases hk
  have n3:(N*W != M)=true:=by simpa using n2
  have b1:0<=N*W:=Int.mul_nonneg n0' (by omega);have b2:N*W<=1048576*64:=Int.mul_le_mul (by omega) a2 (by omega) (by omega);clear hk n0 n2;go_enter func285,ntmps285
  go_wp2_with (first | (go_at_call 282;refine(j6 _ ?_ ?_ _).mono ?_;exact a1;exact a2;rintro e w' ⟨rfl,rfl⟩) | (go_at_call 147;refine mr (bi _ _ _ _ _ (K _)) fun w' hb=>?_;have KK:=gC.new hb;clear hb;obtain⟨⟨hz,c0,c1,c2,c3⟩,hw⟩:=KK))
  go_ret;exact⟨⟨_,rfl⟩,by assumption⟩
theorem qD(N W M:Int)(ao:Option Addr)(xs:List Nat)(cap:Nat)(w:World)(hx:Wd w ao xs):
  Qq 273 #[.agg #[.int .i64 N,.int .i64 W,.int .i64 M,.slice ao xs.length cap]] w (.bool (aZ N W M xs)):=by
 have K:∀o,Wd (w.alloc o) ao xs:=fun o=>hx.keep (below_alloc w o);cases hk:aZ N W M xs with
 | true=>
  go_enter func273,ntmps273;go_wp2_with (go_at_call 285;refine mr (uM _ _ _ _ _ _ _ (K _) hk) fun w' hb=>?_;have KK:=gC.new hb;clear hb;obtain⟨⟨hz,c0,c1,c2,c3⟩,hw⟩:=KK);go_ret
  exact⟨rfl,by assumption⟩
 | false=>
  go_enter func273,ntmps273;go_wp2_with (go_at_call 285;refine(DA _ _ _ _ _ _ _ (K _) hk).mono ?_;rintro e w' ⟨⟨s,rfl⟩,hb⟩;have KK:=gC.new hb;clear hb;obtain⟨⟨hz,c0,c1,c2,c3⟩,hw⟩:=KK);go_ret
  exact⟨rfl,by assumption⟩
theorem BW(N W M:Int)(ao:Option Addr)(xs:List Nat)(cap:Nat)(i:Int)(w:World)(hx:Wd w ao xs)(hE:gu N W M xs i=0):
  Qq 276 #[.agg #[.int .i64 N,.int .i64 W,.int .i64 M,.slice ao xs.length cap],.int .i64 i] w .nilIface:=by
 have K:∀o,Wd (w.alloc o) ao xs:=fun o=>hx.keep (below_alloc w o);obtain⟨hk,i0,i1⟩:=vS N W M xs i hE;clear hE;go_enter func276,ntmps276
 go_wp2_with (go_at_call 285;refine mr (uM _ _ _ _ _ _ _ (K _) hk) fun w' hb=>?_;have KK:=gC.new hb;clear hb;obtain⟨⟨hz,c0,c1,c2,c3⟩,hw⟩:=KK);go_ret;exact⟨rfl,by assumption⟩
theorem FG(N W M:Int)(ao:Option Addr)(xs:List Nat)(cap:Nat)(i:Int)(w:World)(hx:Wd w ao xs)(hf:Fit xs)(hE:gu N W M xs i=0):
  Qq 256 #[.agg #[.int .i64 N,.int .i64 W,.int .i64 M,.slice ao xs.length cap],.int .i64 i] w (.tuple #[.int .u64 (mC N W M xs i),.int .i64 (gu N W M xs i)]):=by
 have K:∀o,Wd (w.alloc o) ao xs:=fun o=>hx.keep (below_alloc w o);obtain⟨hk,i0,i1⟩:=vS N W M xs i hE;obtain⟨a1,a2,a3,a4,a5,a6,a7,a8⟩:=iL N W M xs hk
 obtain⟨q1,q2,q3,q4⟩:=ww N W M i a1 a2 a3 a4 a7 i0 i1;have R:Hid (slcX M xs (i*W) W=mC N W M xs i/\bk M xs (i*W) W=gu N W M xs i):=Ge N W M xs i hk i0 i1;clear a4 q3
 go_enter func256,ntmps256;go_wp2_with fail;refine mr (BW _ _ _ _ _ _ _ _ (K _) hE) fun w1 hb=>?_;have KK:=gC.new hb;clear hb K;obtain⟨⟨hz,c0,c1,c2,c3⟩,hw⟩:=KK;go_wp2_with fail
 refine mr (mZ _ _ _ _ _ _ _ (hx.keep hw) hf (by omega) (by omega) (by omega) (by omega)) fun w2 hb=>?_;have hw2:=bg hw hb;clear hb;go_wp2;go_ret2
 exact⟨gI (congrArg (Value.int IntKind.u64) (congrArg Int.ofNat R.out.1)) (congrArg (Value.int IntKind.i64) R.out.2),hw2⟩
end Go.Proofs.YtleegaihbgbcjaaGreatDoor
namespace Go.Proofs.YtleegaihbgbcjaaGreatDoor
open Num
namespace Bit
end Bit
open Go.RowKit Num Bit
def bt(l:List Bool)(i:Nat):Bool:=l.getD i false
def Bl(w:World)(ao:Option Addr)(l:List Bool):Prop:=
 0<l.length->∃b off,ao=some ⟨b,off,none⟩/\b<w.heap.size/\∀i,i<l.length->w.cell? ⟨b,off+i,none⟩=some (.bool (bt l i))
theorem Bl.keep{w w':World}{ao:Option Addr}{l:List Bool}(h:Bl w ao l)(hb:Below w.heap.size w w'):Bl w' ao l:=by
 intro hi;obtain⟨b,off,e,hlt,hc⟩:=h hi;exact⟨b,off,e,Nat.lt_of_lt_of_le hlt hb.size,fun i hi=>(hb.cell (p:=⟨b,off+i,none⟩) hlt).trans (hc i hi)⟩
def dq(l:List Bool)(q:Nat):List Nat:=rowOf l.length (fun j=>decide (j<q)&&bt l j)
theorem D2(l:List Bool)(q:Nat):(dq l q).length=(l.length+63)/64:=cU _ _
theorem GJ(l:List Bool)(q:Nat):Fit (dq l q):=db _ _
theorem Gn(l:List Bool)(q:Nat)(hq:q<l.length)(hl:l.length<=1048576)(hb:bt l q=true):(dq l q).set (q/64) (gt (dq l q) (q/64)|||2^(q%64))=dq l (q+1):=by
 have e:=zQ l.length (dq l q) (db _ _) (dL _ _ hl) q (by omega);rw[e,Int.toNat_natCast];refine dc _ _ _ fun i hi=>?_;unfold dq;rw[eD];by_cases c:i=q
 .subst c;simp[hb]
 .rw[if_neg c];by_cases c2:i<q
  .simp[hi,c2,show i<q+1 by omega]
  .simp[c2,show ¬i<q+1 by omega]
theorem Gp(l:List Bool)(q:Nat)(hb:bt l q=false):dq l q=dq l (q+1):=by
 refine dc _ _ _ fun i _=>?_;by_cases c:i=q
 .subst c;simp[hb]
 .by_cases c2:i<q
  .simp[c2,show i<q+1 by omega]
  .simp[c2,show ¬i<q+1 by omega]
theorem Gq(ao:Option Addr)(l:List Bool)(cap k:Nat)(w:World)(hx:Bl w ao l)(hl:l.length<=1048576)(hk:k=(l.length+63)/64):
  Calls prog 39 #[.slice ao l.length cap] w fun e w'=>∃g,e=.returned (.tuple #[.agg #[.int .i64 l.length,.slice (some ⟨g,0,none⟩) k k],.int .i64 0])/\Own w' g (dq l l.length)/\Below w.heap.size w w':=by
 have HK:Hid (k=(l.length+63)/64):=hk;have hk1:((l.length:Int)+63)/64=(k:Int):=by omega
 have HK1:Hid (((l.length:Int)+63)/64=(k:Int)):=hk1;clear hk hk1;go_enter func39,ntmps39;go_wp2_with fail;refine(lZ _ k _ (Int.natCast_nonneg _) (by omega) HK1.out).mono ?_
 rintro e w1 ⟨g,rfl,hg1,hg2,hO,hb⟩;have KK:=cQ hb;have KF:=xx hb;have hg0:w.heap.size+1<=g:=by simpa using hg1
 clear hb hg1;obtain⟨k0,k1,hz,hw⟩:=KK;obtain⟨k2,k3⟩:=KF;go_wp2
 go_loopw [20] (fun i wr=>∃q:Nat,q<=l.length/\i=.int .i64 q/\Own wr g (dq l q)/\(wr.cell? ⟨w1.heap.size,0,none⟩=some (.int .i64 l.length)/\wr.cell? ⟨w1.heap.size,1,none⟩=some (.slice (some ⟨g,0,none⟩) k k))/\(wr.cell? ⟨w.heap.size,0,none⟩=some (.int .i64 0)/\wr.cell? ⟨w.heap.size,1,none⟩=some (.slice none 0 0)/\wr.frozen? ⟨w.heap.size,0,none⟩=false/\wr.frozen? ⟨w.heap.size,1,none⟩=false)/\Below w.heap.size w wr) (fun i _=>l.length-(intOf i).toNat)
 case atStart=>
  have hb:=below_alloc w1 (.cells #[.int .i64 l.length,.slice (some ⟨g,0,none⟩) k k] 33)
  refine⟨0,Nat.zero_le _,rfl,?_,⟨by simp,by simp⟩,⟨(hb.cell (p:=⟨w.heap.size,0,none⟩) hz).trans k0,(hb.cell (p:=⟨w.heap.size,1,none⟩) hz).trans k1,(hb.frozen (p:=⟨w.heap.size,0,none⟩) hz).trans k2,(hb.frozen (p:=⟨w.heap.size,1,none⟩) hz).trans k3⟩,hw.trans (hb.mono (by omega))⟩
  have e1:dq l 0=List.replicate k 0:=by
   rw[lM l.length k HK.out];exact dc _ _ _ fun i _=>by simp
  rw[e1];exact hO.keep hb
 case round=>
  obtain⟨q,hq,rfl,hOr,⟨r0,r1⟩,⟨r3,r4,r5,r6⟩,hwr⟩:=hrel;by_cases hlt:q<l.length
  .obtain⟨b,off,rfl,hb,hc⟩:=hx (by omega);have e1:=(hwr.cell (p:=⟨b,off+q,none⟩) hb).trans (hc q hlt);have hlt3:(q:Int)<(l.length:Int):=by omega
   have hq2:q/64<k:=by have:=HK.out;omega
   have hq3:(q:Int)/64<(k:Int):=by omega
   have c1:=hOr.cell (q/64) (by rw[D2,<-HK.out];exact hq2);have c2:=hOr.frozen (q/64);have n1:¬w1.heap.size=g:=by omega
   clear hc;cases hbt:bt l q with
   | true=>
    rw[hbt]at e1;have SO:Hid (IntKind.u64.wrap ((2:Int)^(q%64))=((2^(q%64):Nat):Int)):=shl_one _ (by omega);have SP:Hid (2^(q%64)<18446744073709551616):=iY _ (by omega)
    have FS:Hid ((dq l q).set (q/64) (gt (dq l q) (q/64)|||2^(q%64))=dq l (q+1)):=Gn l q hlt hl hbt;go_wp2;go_region;go_wp2
    refine⟨⟨q+1,by omega,by go_num,?_,⟨?_,?_⟩,⟨?_,?_,?_,?_⟩,?_⟩,by simp only[intOf];omega⟩
    .rw[SO.out,u64_or_nat _ _ (GJ l q _) SP.out,<-FS.out];exact hOr.set _ _
    .exact(((aL.refl g wr).set (q/64) _).cell (p:=⟨w1.heap.size,0,none⟩) (show w1.heap.size≠g by omega)).trans r0
    .exact(((aL.refl g wr).set (q/64) _).cell (p:=⟨w1.heap.size,1,none⟩) (show w1.heap.size≠g by omega)).trans r1
    .exact(((aL.refl g wr).set (q/64) _).cell (p:=⟨w.heap.size,0,none⟩) (show w.heap.size≠g by omega)).trans r3
    .exact(((aL.refl g wr).set (q/64) _).cell (p:=⟨w.heap.size,1,none⟩) (show w.heap.size≠g by omega)).trans r4
    .exact(((aL.refl g wr).set (q/64) _).frozen (p:=⟨w.heap.size,0,none⟩) (show w.heap.size≠g by omega)).trans r5
    .exact(((aL.refl g wr).set (q/64) _).frozen (p:=⟨w.heap.size,1,none⟩) (show w.heap.size≠g by omega)).trans r6
    .exact(hwr.setCell (show w.heap.size<=g by omega) _).drew
   | false=>
    rw[hbt]at e1;have FS:Hid (dq l q=dq l (q+1)):=Gp l q hbt;go_wp2;refine⟨⟨q+1,by omega,by go_num,?_,⟨r0,r1⟩,⟨r3,r4,r5,r6⟩,hwr⟩,by simp only[intOf];omega⟩;rw[<-FS.out];exact hOr
  .have hq2:q=l.length:=by omega
   rw[hq2]at hOr;clear hq2;go_wp2;refine bodyPost_ret (v:=.tuple #[.agg #[.int .i64 l.length,.slice (some ⟨g,0,none⟩) k k],.int .i64 0]) (by simp[results,Tryz.results39,go_sem,r3,r4]) rfl ⟨g,rfl,?_,?_⟩
   .exact(hOr.set_other (by simp;omega) _).set_other (by simp;omega) _
   .exact(hwr.setCell (by simp) _).setCell (by simp) _
def frL(l:List Bool):List Nat:=rowOf l.length (bt l)
theorem Gs(l:List Bool):dq l l.length=frL l:=dc _ _ _ fun i hi=>by simp[hi]
theorem Gr(ao:Option Addr)(l:List Bool)(cap:Nat)(w:World)(hx:Bl w ao l)(hl:l.length<=1048576):
  Calls prog 39 #[.slice ao l.length cap] w fun e w'=>∃bo dap,e=.returned (.tuple #[.agg #[.int .i64 l.length,.slice bo (frL l).length dap],.int .i64 0])/\Kd w w' bo (frL l) dap:=by
 refine(Gq ao l cap _ w hx hl rfl).mono ?_;rintro e w' ⟨g,rfl,hO,hb⟩;rw[Gs]at hO;have e5:(frL l).length=(l.length+63)/64:=cU _ _
 exact⟨some ⟨g,0,none⟩,(l.length+63)/64,by rw[e5],hO.wd,db _ _,by omega,hb⟩
open Go.RowKit Num Bit
theorem aL.drew{g:Nat}{a w:World}(h:aL g a w):aL g a w.drew:=⟨h.os,h.tape,h.output,h.size,h.block⟩
theorem Own.drew{w:World}{g:Nat}{ys:List Nat}(h:Own w g ys):Own w.drew g ys:=h
theorem qg(W m:Nat)(hm:maskI (W:Int)=(m:Int))(w:World):
  Qx 228 #[.int .i64 W] w (.int .u64 m):=by
 have h:=me (W:Int) w;rw[hm]at h;exact h
theorem uN(W:Nat)(h:W<=64):maskI (W:Int)=((2^W-1:Nat):Int):=by
 unfold maskI;rw[Int.toNat_natCast,Nat.min_eq_left h]
theorem Es(ys:List Nat)(l g cap p W v:Nat)(w:World)(hl:ys.length=l)(hO:Own w g ys)(hf:Fit ys)(hW:1<=W)(hW2:W<=64)(hv:v<18446744073709551616)(hp:p+W<=64*ys.length)(hpb:p<=1048576):
  Calls prog 269 #[.slice (some ⟨g,0,none⟩) l cap,.int .i64 p,.int .i64 W,.int .u64 v] w fun e w'=>e=.returned (.tuple #[])/\Own w' g (fd ys p W v)/\aL g w w':=by
 subst hl;obtain⟨m,hm⟩:∃m:Nat,m=2^W-1:=⟨_,rfl⟩;have hmm:Hid (maskI (W:Int)=(m:Int)):=by rw[hm];exact uN W hW2
 have hmb:Hid (m<18446744073709551616):=by
  have:=Nat.pow_le_pow_right (n:=2) (j:=64) (by decide) hW2;rw[show(2:Nat)^64=18446744073709551616 from rfl]at this;unfold Hid;omega
 have h1:p/64<ys.length:=by omega
 have l1':(p:Int)/64<(ys.length:Int):=by omega
 have e1:=hO.cell (p/64) h1;have f1:=hO.frozen (p/64)
 have A1:Hid (bits .andNot .u64 (gt ys (p/64):Int) ((m*2^(p%64)%18446744073709551616:Nat):Int)=((gt ys (p/64)&&&(18446744073709551615-m*2^(p%64)%18446744073709551616):Nat):Int)):=u64_andNot_nat _ _ (hf _) (Nat.mod_lt _ (by decide))
 have A2:Hid (bits .or .u64 ((gt ys (p/64)&&&(18446744073709551615-m*2^(p%64)%18446744073709551616):Nat):Int) ((v*2^(p%64)%18446744073709551616:Nat):Int)=(((gt ys (p/64)&&&(18446744073709551615-m*2^(p%64)%18446744073709551616))|||v*2^(p%64)%18446744073709551616:Nat):Int)):=u64_or_nat _ _ (Nat.lt_of_le_of_lt Nat.and_le_left (hf _)) (Nat.mod_lt _ (by decide))
 have HM:Hid (m=2^W-1):=hm;clear hm;by_cases c:64-p%64<W
 .have c':(64:Int)-(p:Int)%64<(W:Int):=by omega
  have h2:p/64+1<ys.length:=by omega
  have l2':(p:Int)/64+1<(ys.length:Int):=by omega
  have e2:=hO.cell (p/64+1) h2;have f2:=hO.frozen (p/64+1)
  have B1:Hid (bits .andNot .u64 (gt ys (p/64+1):Int) ((m/2^(64-p%64):Nat):Int)=((gt ys (p/64+1)&&&(18446744073709551615-m/2^(64-p%64)):Nat):Int)):=u64_andNot_nat _ _ (hf _) (Nat.lt_of_le_of_lt (Nat.div_le_self _ _) hmb.out)
  have B2:Hid (bits .or .u64 ((gt ys (p/64+1)&&&(18446744073709551615-m/2^(64-p%64)):Nat):Int) ((v/2^(64-p%64):Nat):Int)=(((gt ys (p/64+1)&&&(18446744073709551615-m/2^(64-p%64)))|||v/2^(64-p%64):Nat):Int)):=u64_or_nat _ _ (Nat.lt_of_le_of_lt Nat.and_le_left (hf _)) (Nat.lt_of_le_of_lt (Nat.div_le_self _ _) hv)
  have R:Hid (fd ys p W v=((ys.set (p/64) ((gt ys (p/64)&&&(18446744073709551615-m*2^(p%64)%18446744073709551616))|||v*2^(p%64)%18446744073709551616)).set (p/64+1) ((gt ys (p/64+1)&&&(18446744073709551615-m/2^(64-p%64)))|||v/2^(64-p%64)))):=by
   unfold Hid fd fe;rw[if_pos c,HM.out]
  clear c;go_enter func269,ntmps269;go_wp2_with (go_at_call 228;refine(qg _ _ hmm.out _).mono ?_;rintro e w' ⟨rfl,rfl⟩);go_region;go_wp2;go_region;go_wp2;go_end0
  rw[R.out,fK,fK,A1.out,A2.out,gW,gW,B1.out,B2.out];exact⟨rfl,((hO.set _ _).set _ _).drew.drew,(((aL.refl _ _).set _ _).set _ _).drew.drew⟩
 .have c':¬(64:Int)-(p:Int)%64<(W:Int):=by omega
  have R:Hid (fd ys p W v=(ys.set (p/64) ((gt ys (p/64)&&&(18446744073709551615-m*2^(p%64)%18446744073709551616))|||v*2^(p%64)%18446744073709551616))):=by
   unfold Hid fd fe;rw[if_neg c,HM.out]
  clear c;go_enter func269,ntmps269;go_wp2_with (go_at_call 228;refine(qg _ _ hmm.out _).mono ?_;rintro e w' ⟨rfl,rfl⟩);go_region;go_wp2;go_end0;rw[R.out,fK,fK,A1.out,A2.out]
  exact⟨rfl,(hO.set _ _).drew,((aL.refl _ _).set _ _).drew⟩
theorem vR(W:Int)(l:List Nat)(h:iK W l=0):1<=W/\W<=64/\(l.length:Int)*W<=1048576/\∀j,j<l.length->df (gt l j)<=W:=by
 unfold iK at h;by_cases c:W<1\/64<W\/1048576<(l.length:Int)*W\/¬(∀j,j<l.length->df (gt l j)<=W)
 .rw[if_pos c]at h;omega
 .refine⟨by omega,by omega,by omega,?_⟩;exact Classical.byContradiction fun hc=>c (.inr (.inr (.inr hc)))
theorem Bc(W n:Int)(h0:1<=W):n<=1048576/W↔n*W<=1048576:=Int.le_ediv_iff_mul_le (by omega)
theorem Be(W:Int)(h0:1<=W):0<=1048576/W/\1048576/W<=1048576:=⟨Int.ediv_nonneg (by decide) (by omega),Int.ediv_le_self _ (by decide)⟩
theorem DE(W:Int)(al:Option Addr)(l:List Nat)(cap:Nat)(w:World)(hx:Wd w al l)(hf:Fit l)(hE:iK W l=0):
  Qx 267 #[.int .i64 W,.slice al l.length cap] w .nilIface:=by
 obtain⟨a1,a2,a3,a4⟩:=vR W l hE;have q1:(l.length:Int)<=1048576/W:=(Bc W _ a1).2 a3;obtain⟨q2,q3⟩:=Be W a1;have hll:l.length<=1048576:=by omega
 have HA:Hid (∀j,j<l.length->df (gt l j)<=W):=a4;clear hE a3 a4;go_enter func267,ntmps267;go_wp2_with (go_at_call 282;refine(j6 _ ?_ ?_ _).mono ?_;exact a1;exact a2;rintro e w' ⟨rfl,rfl⟩)
 go_loop [23] (fun i=>∃k:Nat,k<=l.length/\i=.int .i64 k) (fun i=>l.length-(intOf i).toNat)
 case atStart=>exact⟨0,by omega,rfl⟩
 case round=>
  obtain⟨k,hk,rfl⟩:=hrel;by_cases hlt:k<l.length
  .obtain⟨b,off,rfl,hb,hc⟩:=hx (by omega);have e1:=hc k hlt;have hlt3:(k:Int)<(l.length:Int):=by omega
   have F1:Hid ((gt l k:Int)<18446744073709551616):=by unfold Hid;have:=hf k;omega
   clear hc;go_wp2_with (go_at_call 283;refine(Dr _ _ ?_ ?_ ?_ _).mono ?_;(exact Int.natCast_nonneg _);exact F1.out;(exact HA.out k hlt);rintro e w' ⟨rfl,rfl⟩);go_round
   case rel=>exact⟨k+1,by omega,by go_num⟩
   case measure=>simp only[intOf];omega
  .go_wp2;go_ret;exact⟨rfl,rfl⟩
theorem qh(W:Nat)(al:Option Addr)(l:List Nat)(cap k:Nat)(w:World)(hx:Wd w al l)(hf:Fit l)(hE:iK (W:Int) l=0)(hk:k=(l.length*W+63)/64):
  Calls prog 224 #[.int .i64 W,.slice al l.length cap] w fun e w'=>∃g,e=.returned (.tuple #[.agg #[.int .i64 l.length,.int .i64 W,.int .i64 ((l.length:Int)*W),.slice (some ⟨g,0,none⟩) k k],.int .i64 0])/\w.heap.size<=g/\Own w' g (mkS l W l.length)/\Below w.heap.size w w':=by
 obtain⟨a1,a2,a3,a4⟩:=vR W l hE;have K:∀o,Wd (w.alloc o) al l:=fun o=>hx.keep (below_alloc w o)
 have hm:l.length*W<=1048576:=by
  have:((l.length*W:Nat):Int)<=1048576:=by rw[Int.natCast_mul];exact a3
  omega
 have hll:l.length<=1048576:=Nat.le_trans (Nat.le_mul_of_pos_right _ (by omega)) hm;have hmi:(0:Int)<=(l.length:Int)*(W:Int):=Int.mul_nonneg (by omega) (by omega)
 have HK:Hid (k=(l.length*W+63)/64):=hk;have HK1:Hid (((l.length:Int)*W+63)/64=(k:Int)):=by unfold Hid;rw[<-Int.natCast_mul];omega
 have HE:Hid (iK (W:Int) l=0):=hE;have HA:Hid (∀j,j<l.length->gt l j<2^W):=fun j hj=>(qu _ _).1 (a4 j hj);clear hk hE a4;go_enter func224,ntmps224;go_wp2_with fail
 refine(DE _ _ _ _ _ (K _) hf HE.out).mono ?_;rintro e w' ⟨rfl,hw'⟩;subst hw';go_wp2_with fail;refine(lZ _ k _ hmi a3 HK1.out).mono ?_;rintro e w1 ⟨g,rfl,hg1,hg2,hO,hb⟩
 have KF:w1.frozen? ⟨w.heap.size,0,none⟩=false/\w1.frozen? ⟨w.heap.size,1,none⟩=false/\w1.frozen? ⟨w.heap.size,2,none⟩=false/\w1.frozen? ⟨w.heap.size,3,none⟩=false:=
  ⟨(hb.frozen (p:=⟨w.heap.size,0,none⟩) (by simp)).trans (by simp),(hb.frozen (p:=⟨w.heap.size,1,none⟩) (by simp)).trans (by simp),(hb.frozen (p:=⟨w.heap.size,2,none⟩) (by simp)).trans (by simp),(hb.frozen (p:=⟨w.heap.size,3,none⟩) (by simp)).trans (by simp)⟩
 have KK:=gC.new hb;have hg0:w.heap.size+1<=g:=by simpa using hg1
 clear hb hg1 K;obtain⟨⟨hz,k0,k1,k2,k3⟩,hw⟩:=KK;obtain⟨f0,f1,f2,f3⟩:=KF;go_wp2
 go_loopw [33] (fun i wr=>∃q:Nat,q<=l.length/\i=.int .i64 q/\Own wr g (mkS l W q)/\(wr.cell? ⟨w1.heap.size,0,none⟩=some (.int .i64 ((l.length:Int)*W))/\wr.cell? ⟨w1.heap.size,1,none⟩=some (.slice (some ⟨g,0,none⟩) k k))/\(wr.cell? ⟨w.heap.size,0,none⟩=some (.int .i64 0)/\wr.cell? ⟨w.heap.size,1,none⟩=some (.int .i64 0)/\wr.cell? ⟨w.heap.size,2,none⟩=some (.int .i64 0)/\wr.cell? ⟨w.heap.size,3,none⟩=some (.slice none 0 0))/\(wr.frozen? ⟨w.heap.size,0,none⟩=false/\wr.frozen? ⟨w.heap.size,1,none⟩=false/\wr.frozen? ⟨w.heap.size,2,none⟩=false/\wr.frozen? ⟨w.heap.size,3,none⟩=false)/\Below w.heap.size w wr) (fun i _=>l.length-(intOf i).toNat)
 case atStart=>
  have hb:=below_alloc w1 (.cells #[.int .i64 ((l.length:Int)*W),.slice (some ⟨g,0,none⟩) k k] 33)
  refine⟨0,Nat.zero_le _,rfl,?_,⟨by simp,by simp⟩,⟨(hb.cell (p:=⟨w.heap.size,0,none⟩) hz).trans k0,(hb.cell (p:=⟨w.heap.size,1,none⟩) hz).trans k1,(hb.cell (p:=⟨w.heap.size,2,none⟩) hz).trans k2,(hb.cell (p:=⟨w.heap.size,3,none⟩) hz).trans k3⟩,⟨(hb.frozen (p:=⟨w.heap.size,0,none⟩) hz).trans f0,(hb.frozen (p:=⟨w.heap.size,1,none⟩) hz).trans f1,(hb.frozen (p:=⟨w.heap.size,2,none⟩) hz).trans f2,(hb.frozen (p:=⟨w.heap.size,3,none⟩) hz).trans f3⟩,hw.trans (hb.mono (by omega))⟩
  rw[<-Du,<-lM (l.length*W) k HK.out];exact hO.keep hb
 case round=>
  obtain⟨q,hq,rfl,hOr,⟨r0,r1⟩,⟨s0,s1,s2,s3⟩,⟨t0,t1,t2,t3⟩,hwr⟩:=hrel;by_cases hlt:q<l.length
  .obtain⟨b,off,rfl,hb,hc⟩:=hx (by omega);have e1:=(hwr.cell (p:=⟨b,off+q,none⟩) hb).trans (hc q hlt);have hlt3:(q:Int)<(l.length:Int):=by omega
   have hn:=ma l.length W q hlt;have hqW:q*W<=1048576:=by omega
   have hqi:(0:Int)<=(q:Int)*(W:Int):=Int.mul_nonneg (by omega) (by omega);have hqi2:(q:Int)*(W:Int)<=1048576:=by rw[<-Int.natCast_mul];omega
   have FS:Hid (fd (mkS l W q) (q*W) W (gt l q)=mkS l W (q+1)):=Dv l W q (by omega) (by omega) hlt (HA.out q hlt) (hf q)
   have HLN:Hid ((mkS l W q).length=k):=by unfold Hid;rw[ku];exact HK.out.symm
   have HP:Hid (q*W+W<=64*(mkS l W q).length):=by unfold Hid;rw[ku];omega
   have HC:Hid ((q:Int)*(W:Int)=((q*W:Nat):Int)):=(Int.natCast_mul q W).symm;clear hc hn;go_wp2_with fail;rw[HC.out]
   refine(Es (mkS l W q) k g k (q*W) W (gt l q) _ HLN.out hOr (q_ _ _ _) (by omega) (by omega) (hf q) HP.out hqW).mono ?_;rintro e w4 ⟨rfl,hO4,hT⟩;rw[FS.out]at hO4
   have u0:=(hT.cell (p:=⟨w1.heap.size,0,none⟩) (show w1.heap.size≠g by omega)).trans r0;have u1:=(hT.cell (p:=⟨w1.heap.size,1,none⟩) (show w1.heap.size≠g by omega)).trans r1
   have x0:=(hT.cell (p:=⟨w.heap.size,0,none⟩) (show w.heap.size≠g by omega)).trans s0;have x1:=(hT.cell (p:=⟨w.heap.size,1,none⟩) (show w.heap.size≠g by omega)).trans s1
   have x2:=(hT.cell (p:=⟨w.heap.size,2,none⟩) (show w.heap.size≠g by omega)).trans s2;have x3:=(hT.cell (p:=⟨w.heap.size,3,none⟩) (show w.heap.size≠g by omega)).trans s3
   have y0:=(hT.frozen (p:=⟨w.heap.size,0,none⟩) (show w.heap.size≠g by omega)).trans t0;have y1:=(hT.frozen (p:=⟨w.heap.size,1,none⟩) (show w.heap.size≠g by omega)).trans t1
   have y2:=(hT.frozen (p:=⟨w.heap.size,2,none⟩) (show w.heap.size≠g by omega)).trans t2;have y3:=(hT.frozen (p:=⟨w.heap.size,3,none⟩) (show w.heap.size≠g by omega)).trans t3
   have hw4:=hwr.trans (hT.below (B:=w.heap.size) (by omega));clear hT r0 r1 s0 s1 s2 s3 t0 t1 t2 t3 hwr hOr e1;go_wp2
   exact⟨⟨q+1,by omega,by go_num,hO4,⟨u0,u1⟩,⟨x0,x1,x2,x3⟩,⟨y0,y1,y2,y3⟩,hw4⟩,by simp only[intOf];omega⟩
  .have hq2:q=l.length:=by omega
   rw[hq2]at hOr;clear hq2;go_wp2
   refine bodyPost_ret (v:=.tuple #[.agg #[.int .i64 l.length,.int .i64 W,.int .i64 ((l.length:Int)*W),.slice (some ⟨g,0,none⟩) k k],.int .i64 0]) (by simp[results,Tryz.results224,go_sem,s0,s1,s2,s3]) rfl ⟨g,rfl,by omega,?_,?_⟩
   .exact(((hOr.set_other (by simp;omega) _).set_other (by simp;omega) _).set_other (by simp;omega) _).set_other (by simp;omega) _
   .exact(((hwr.setCell (by simp) _).setCell (by simp) _).setCell (by simp) _).setCell (by simp) _
def bv(l:List Bool):List Value:=l.map fun b=>Value.bool b
def mb(l:List Nat)(W q:Nat):List Bool:=(List.range q).map fun j=>(gt l (j/W)).testBit (j%W)
structure RB (w wr:World):Prop where
 c0:wr.cell? ⟨w.heap.size,0,none⟩=some (.int .i64 0)
 c1:wr.cell? ⟨w.heap.size,1,none⟩=some (.int .i64 0)
 c2:wr.cell? ⟨w.heap.size,2,none⟩=some (.int .i64 0)
 c3:wr.cell? ⟨w.heap.size,3,none⟩=some (.slice none 0 0)
 f0:wr.frozen? ⟨w.heap.size,0,none⟩=false
 f1:wr.frozen? ⟨w.heap.size,1,none⟩=false
 f2:wr.frozen? ⟨w.heap.size,2,none⟩=false
 f3:wr.frozen? ⟨w.heap.size,3,none⟩=false
 lt:w.heap.size<wr.heap.size
 bel:Below w.heap.size w wr
def g_(n:Nat)(f:Nat->Nat)(k:Nat):List Nat:=(List.range n).map fun i=>if i<k then f i else 0
theorem ky(n:Nat)(f:Nat->Nat)(k:Nat):(g_ n f k).length=n:=by simp[g_]
theorem ow(n:Nat)(f:Nat->Nat)(k j:Nat):gt (g_ n f k) j=if j<n/\j<k then f j else 0:=by
 unfold g_ gt;rw[List.getD_eq_getElem?_getD,List.getElem?_map];by_cases h:j<n
 .rw[List.getElem?_range h];by_cases c:j<k<;>simp[h,c]
 .rw[List.getElem?_eq_none (by simp;omega)];simp[h]
theorem DG(n:Nat)(f:Nat->Nat):List.replicate n 0=g_ n f 0:=by
 refine list_ext _ _ (by rw[ky];simp) fun i hi=>?_;rw[ow];simp only[List.length_replicate]at hi;unfold gt;rw[List.getD_eq_getElem?_getD,List.getElem?_replicate];simp[hi]
theorem DH(n:Nat)(f:Nat->Nat)(k:Nat)(h:k<n):(g_ n f k).set k (f k)=g_ n f (k+1):=by
 refine list_ext _ _ (by rw[List.length_set,ky,ky]) fun i hi=>?_;rw[gt_set _ _ _ _ (by rw[ky];exact h),ow,ow];rw[List.length_set,ky]at hi;by_cases c:k=i
 .subst c;simp[h]
 .rw[if_neg c];by_cases d:i<k
  .simp[hi,d,show i<k+1 by omega]
  .simp[d,show ¬i<k+1 by omega]
theorem uT(n:Nat)(f:Nat->Nat):g_ n f n=(List.range n).map f:=by
 unfold g_;refine List.map_congr_left fun i hi=>?_;rw[if_pos (List.mem_range.1 hi)]
theorem gt_map(n:Nat)(f:Nat->Nat)(j:Nat)(h:j<n):gt ((List.range n).map f) j=f j:=by
 rw[<-uT,ow,if_pos ⟨h,h⟩]
/-! The document's List: what is appended lies in memory of the call's own,with room behind it. -/
theorem owns_below{w w':World}{base e n:Nat}{v:Value}{vs:List Value}(h:w.ownsRow base e 1 v n vs)(hb:Below w.heap.size w w'):w'.ownsRow base e 1 v n vs:=by
 obtain⟨h1,h2 | ⟨g,cap,cur,e1,e2,hh,r⟩⟩:=h
 .exact⟨h1,.inl h2⟩
 .exact⟨h1,.inr ⟨g,cap,cur,e1,e2,(hb.block g ((Array.getElem?_eq_some_iff.1 hh).1)).trans hh,r⟩⟩
end Go.Proofs.YtleegaihbgbcjaaGreatDoor
namespace Go.Proofs.YtleegaihbgbcjaaGreatDoor
open Num
namespace Bn
def ch:Nat->Nat->Nat
 | _,0=>1
 | 0,_+1=>0
 | n+1,k+1=>ch n k+ch n (k+1)
theorem ix(n:Nat):ch n 0=1:=by cases n<;>rfl
theorem gO(n k:Nat):ch (n+1) (k+1)=ch n k+ch n (k+1):=rfl
theorem kY:∀n k,n<k->ch n k=0:=by
 intro n;induction n with
 | zero=>intro k h;match k,h with | k+1,_=>rfl
 | succ n ih=>intro k h;match k,h with | k+1,h=>rw[gO,ih k (by omega),ih (k+1) (by omega)]
theorem IF:∀n k,k<=n->0<ch n k:=by
  intro n;induction n with
  | zero => intro k h; obtain rfl : k = 0 := by omega
            exact Nat.one_pos
  | succ n ih=>
    intro k h;match k,h with
    | 0,_=>rw[ix];exact Nat.one_pos
    | k+1,h=>rw[gO];have:=ih k (by omega);omega
theorem xk:∀n k,ch n k<=2^n:=by
 intro n;induction n with
 | zero=>intro k;match k with | 0=>exact Nat.le_refl _ | k+1=>exact Nat.zero_le _
 | succ n ih=>
  intro k;match k with
  | 0=>rw[ix];exact Nat.one_le_two_pow
  | k+1=>rw[gO,Nat.pow_succ];have:=ih k;have:=ih (k+1);omega
theorem IG(n k:Nat):ch n k<=ch (n+1) k:=by
 match k with
 | 0=>rw[ix,ix];exact Nat.le_refl _
 | k+1=>rw[gO];omega
def eI(n:Nat):Nat->Nat
 | 0=>0
 | k+1=>eI n k+ch n k
theorem yD(n:Nat):∀k,eI (n+1) (k+1)=eI n k+eI n (k+1):=by
 intro k;induction k with
 | zero=>simp[eI,ix]
 | succ k ih=>
  rw[eI,ih,gO];simp only[eI];omega
theorem yI:∀n,eI n (n+1)=2^n:=by
 intro n;induction n with
 | zero=>rfl
 | succ n ih=>
  have e:eI n (n+2)=eI n (n+1)+ch n (n+1):=rfl;rw[yD,e,kY n (n+1) (by omega),ih,Nat.pow_succ];omega
theorem yG(n:Nat):∀d k,eI n k<=eI n (k+d):=by
 intro d;induction d with
 | zero=>intro k;exact Nat.le_refl _
 | succ d ih=>intro k;have:=ih k;rw[show k+(d+1)=k+d+1 by omega,eI];omega
theorem sum_le(n k:Nat)(h:k<=n+1):eI n k<=2^n:=by
 rw[<-yI n];have:=yG n (n+1-k) k;rw[show k+(n+1-k)=n+1 by omega]at this;exact this
def off(x:Nat):Nat->Nat
 | 0=>0
 | n+1=>off x n+if x/2^n%2=1 then ch n (cnt x (n+1))else 0
theorem pZ(x:Nat):∀n,off x n<ch n (cnt x n):=by
 intro n;induction n with
 | zero=>exact Nat.one_pos
 | succ n ih=>
  rw[off];by_cases hb:x/2^n%2=1
  .rw[if_pos hb];have e:cnt x (n+1)=cnt x n+1:=by rw[cnt,hb]
   rw[e,gO];omega
  .rw[if_neg hb];have e:cnt x (n+1)=cnt x n:=by rw[cnt];omega
   rw[e];have:=IG n (cnt x n);omega
theorem CU(x m:Nat):∀n,n<=m->off (x%2^m) n=off x n:=by
 intro n;induction n with
 | zero=>intro _;rfl
 | succ n ih=>
  intro h;rw[off,off,ih (by omega),xC x m n (by omega),oJ x m (n+1) h]
def blk:Nat->Nat->Nat->Nat
 | 0,_,_=>0
 | i+1,k,o=>if k=0 then 0 else if ch i k<=o then 2^i+blk i (k-1) (o-ch i k)else blk i k o
theorem k5(n o:Nat):blk n 0 o=0:=by
 cases n with
 | zero=>rfl
 | succ n=>rw[blk,if_pos rfl]
theorem oR(i k o:Nat)(hk:k≠0)(h:ch i k<=o):blk (i+1) k o=2^i+blk i (k-1) (o-ch i k):=by rw[blk,if_neg hk,if_pos h]
theorem oQ(i k o:Nat)(hk:k≠0)(h:¬ch i k<=o):blk (i+1) k o=blk i k o:=by rw[blk,if_neg hk,if_neg h]
theorem k6:∀n k o,blk n k o<2^n:=by
 intro n;induction n with
 | zero=>intro k o;exact Nat.one_pos
 | succ n ih=>
  intro k o;have p:2^(n+1)=2^n+2^n:=by rw[Nat.pow_succ];omega
  by_cases hk:k=0
  .subst hk;rw[k5];exact Nat.two_pow_pos _
  .by_cases h:ch n k<=o
   .rw[oR n k o hk h];have:=ih (k-1) (o-ch n k);omega
   .rw[oQ n k o hk h];have:=ih k o;omega
theorem uE(x n:Nat):x%2^(n+1)=x%2^n+2^n*(x/2^n%2):=by rw[Nat.mod_pow_succ]
theorem rG(x:Nat):∀n,blk n (cnt x n) (off x n)=x%2^n:=by
 intro n;induction n with
 | zero=>simp[blk,Nat.mod_one]
 | succ n ih=>
  rw[uE];by_cases hb:x/2^n%2=1
  .have e:cnt x (n+1)=cnt x n+1:=by rw[cnt,hb]
   have eo:off x (n+1)=off x n+ch n (cnt x n+1):=by rw[off,if_pos hb,e]
   rw[e,eo,oR _ _ _ (by omega) (by omega),hb,Nat.add_sub_cancel,Nat.add_sub_cancel,ih];omega
  .have e:cnt x (n+1)=cnt x n:=by rw[cnt];omega
   have eo:off x (n+1)=off x n:=by rw[off,if_neg hb,Nat.add_zero]
   have h0:x/2^n%2=0:=by omega
   rw[e,eo,h0,Nat.mul_zero];show _=x%2^n;by_cases hk:cnt x n=0
   .rw[<-ih,hk,k5,k5]
   .have:=pZ x n;rw[oQ _ _ _ hk (by omega),ih]
theorem iQ(n k:Nat)(h:n<=62):ch n k<=4611686018427387904:=by
 have:=xk n k;have:2^n<=2^62:=Nat.pow_le_pow_right (by decide) h;omega
def chN(n k:Int):Nat:=if n<0\/62<n\/k<0\/n<k then 0 else ch n.toNat k.toNat
def iA(n k:Int):Nat:=if chN n k=0 then 0 else Go.bitLen (chN n k-1)
def lY(x:Nat)(n:Int):Nat:=if n<0\/62<n then 0 else cnt x n.toNat
def lX(x:Nat)(n:Int):Nat:=if n<0\/62<n then 0 else off x n.toNat
def iy(n k:Int)(o:Nat):Nat:=if chN n k<=o then 0 else blk n.toNat k.toNat o
def bkB(n k:Int)(o:Nat):Bool:=decide (o<chN n k)
theorem rx(n k:Nat)(h:n<=62):chN n k=ch n k:=by
 unfold chN;by_cases c:n<k
 .rw[if_pos (by omega),kY n k c]
 .rw[if_neg (by omega),Int.toNat_natCast,Int.toNat_natCast]
theorem DF(x:Nat)(h:x<18446744073709551616):x<2^Go.bitLen x:=by
 by_cases h0:x=0
 .subst h0;exact Nat.two_pow_pos _
 .obtain⟨p,hp,h1,_,hd,_⟩:=uU (x:Int) (by omega) (by omega) (by omega);unfold df at hp;rw[Int.toNat_natCast]at hp;have hp2:Go.bitLen x=p:=by omega
  rw[hp2]
  have e:x/2^(p-1)=1:=by
   rw[pD _ _ (by omega),Int.toNat_natCast]at hd;omega
  have e2:2^p=2^(p-1)*2:=by
   obtain⟨m,rfl⟩:∃m,p=m+1:=⟨p-1,by omega⟩;rw[Nat.add_sub_cancel,Nat.pow_succ]
  have q:=Nat.two_pow_pos (p-1);have:=Nat.lt_mul_div_succ x q;rw[e]at this;omega
end Bn
open Num Bn
namespace Bit
def nb(N:Nat):Nat:=(N+14)/15
def blv(N:Nat)(f:Nat->Bool)(i:Nat):Nat:=cO 15 fun k=>decide (15*i+k<N)&&f (15*i+k)
def bcl(N:Nat)(f:Nat->Bool)(i:Nat):Nat:=cnt (blv N f i) 15
def bof(N:Nat)(f:Nat->Bool)(i:Nat):Nat:=off (blv N f i) 15
def kwd(k:Nat):Nat:=Go.bitLen (ch 15 k-1)
def dO(N:Nat)(f:Nat->Bool)(i:Nat):Nat:=kwd (bcl N f i)
def bat(N:Nat)(f:Nat->Bool):Nat->Nat
 | 0=>0
 | i+1=>bat N f i+dO N f i
def bon(N:Nat)(f:Nat->Bool):Nat->Nat
 | 0=>0
 | i+1=>bon N f i+bcl N f i
def bits(x n:Nat):List Bool:=(List.range n).map x.testBit
def eB(N:Nat)(f:Nat->Bool):Nat->List Bool
 | 0=>[]
 | i+1=>eB N f i++bits (bof N f i) (dO N f i)
def dP(N:Nat)(f:Nat->Bool)(i:Nat):List Nat:=(List.range i).map (bcl N f)
theorem uZ(x n:Nat):(bits x n).length=n:=by simp[bits]
theorem mo(N:Nat)(f:Nat->Bool)(i:Nat):(eB N f i).length=bat N f i:=by
 induction i with
 | zero=>rfl
 | succ i ih=>rw[eB,List.length_append,ih,uZ,bat]
theorem gq(N:Nat)(f:Nat->Bool)(i:Nat):(dP N f i).length=i:=by simp[dP]
theorem iU(N:Nat)(f:Nat->Bool)(i:Nat):bcl N f i<=15:=dh _ _
theorem EB(k:Nat):kwd k<=15:=kG _ 15 (by
 have:=xk 15 k;have p:(2:Nat)^15=32768:=by decide
 omega)
theorem I1(N:Nat)(f:Nat->Bool)(i:Nat):dO N f i<=15:=EB _
theorem jQ(k:Nat)(h:k<=15):kwd k<=13:=by
 match k,h with
 | 0,_ | 1,_ | 2,_ | 3,_ | 4,_ | 5,_ | 6,_ | 7,_ | 8,_ | 9,_ | 10,_ | 11,_ | 12,_ | 13,_ | 14,_ | 15,_=>decide +kernel
theorem jA(N:Nat)(f:Nat->Bool)(i:Nat):bat N f i<=13*i:=by
 induction i with
 | zero=>exact Nat.le_refl _
 | succ i ih=>have:=jQ (bcl N f i) (iU N f i);rw[bat,dO];omega
theorem xz(N:Nat)(f:Nat->Bool)(i:Nat):bon N f i<=15*i:=by
 induction i with
 | zero=>exact Nat.le_refl _
 | succ i ih=>have:=iU N f i;rw[bon];omega
theorem rD(N:Nat)(f:Nat->Bool)(i:Nat):bof N f i<ch 15 (bcl N f i):=pZ _ _
theorem oP(N:Nat)(f:Nat->Bool)(i:Nat):bof N f i<2^dO N f i:=by
 have h:=rD N f i;have c:=iQ 15 (bcl N f i) (by decide);have:=DF (ch 15 (bcl N f i)-1) (by omega);unfold dO kwd;omega
theorem ur(x n:Nat)(h:x<2^n):cO n x.testBit=x:=by
 refine(io n x _ fun k=>?_).symm;by_cases c:k<n
 .simp[c]
 .have:x<2^k:=Nat.lt_of_lt_of_le h (Nat.pow_le_pow_right (by decide) (by omega));rw[Nat.testBit_lt_two_pow this];simp[c]
theorem rE(N:Nat)(f:Nat->Bool):∀n i t,i<n->t<dO N f i->(eB N f n)[bat N f i+t]?=some ((bof N f i).testBit t):=by
 intro n;induction n with
 | zero=>intro i t h;omega
 | succ n ih=>
  intro i t hi ht;rw[eB];by_cases c:i<n
  .have:=ih i t c ht;have hl:=(List.getElem?_eq_some_iff.1 this).1;rw[List.getElem?_append_left hl,this]
  .obtain rfl:i=n:=by omega
   rw[List.getElem?_append_right (by rw[mo];omega),mo,Nat.add_sub_cancel_left];unfold bits;rw[List.getElem?_map,List.getElem?_range ht];rfl
def oZ(N:Nat)(out:List Bool)(b:Nat):List Bool:=out++bits b (min 15 (N-out.length))
def jw(N:Nat)(M:Int)(ys:List Nat):List Nat->Nat->List Bool->Option (List Bool)
 | [],_,out=>some out
 | k::l,at_,out=>
  if bk M ys at_ (iA 15 k)=0/\bkB 15 k (slcX M ys at_ (iA 15 k))=true then jw N M ys l (at_+iA 15 k) (oZ N out (iy 15 k (slcX M ys at_ (iA 15 k))))else none
theorem pi(k:Nat)(h:k<=15):iA 15 k=kwd k:=by
 unfold iA kwd;have e:chN (15:Int) (k:Int)=ch 15 k:=rx 15 k (by decide);have:=IF 15 k h;rw[e,if_neg (by omega)]
theorem j3(N:Nat)(f:Nat->Bool)(i:Nat):blv N f i<2^15:=gJ _ _
theorem Jo(N:Nat)(f:Nat->Bool)(i:Nat):bkB 15 (bcl N f i) (bof N f i)=true/\iy 15 (bcl N f i) (bof N f i)=blv N f i:=by
 have e:chN (15:Int) (bcl N f i:Int)=ch 15 (bcl N f i):=rx 15 _ (by decide);have h:=rD N f i;unfold bkB iy;rw[e,if_neg (by omega)];refine⟨by simpa using h,?_⟩;have:=rG (blv N f i) 15
 rw[show((15:Int).toNat)=15 from rfl,Int.toNat_natCast];unfold bcl bof;rw[this,Nat.mod_eq_of_lt (j3 N f i)]
theorem JX(N:Nat)(f:Nat->Bool)(i:Nat):oZ N ((List.range (min (15*i) N)).map f) (blv N f i)=(List.range (min (15*(i+1)) N)).map f:=by
 unfold oZ;have e:min (15*(i+1)) N=min (15*i) N+min 15 (N-min (15*i) N):=by omega
 rw[e,List.range_add,List.map_append,List.length_map,List.length_range];congr 1;unfold bits;rw[List.map_map];refine List.map_congr_left fun t ht=>?_;have ht:=List.mem_range.1 ht;simp only[Function.comp];unfold blv
 rw[fF];have a1:t<15:=by omega
 have a2:min (15*i) N=15*i:=by omega
 have a3:15*i+t<N:=by omega
 rw[a2];simp[a1,a3]
def xK(N:Nat)(f:Nat->Bool)(M:Int)(ys:List Nat):Prop:=∀i,i<nb N->bk M ys (bat N f i) (iA 15 (bcl N f i))=0/\slcX M ys (bat N f i) (iA 15 (bcl N f i))=bof N f i
theorem G5(N:Nat)(f:Nat->Bool)(M:Int)(ys:List Nat)(h:xK N f M ys):∀d i,i+d=nb N->jw N M ys ((List.range' i d).map (bcl N f)) (bat N f i) ((List.range (min (15*i) N)).map f)=some ((List.range N).map f):=by
 intro d;induction d with
 | zero=>
  intro i hi;have:min (15*i) N=N:=by unfold nb at hi;omega
  rw[this];rfl
 | succ d ih=>
  intro i hi;obtain⟨h1,h2⟩:=h i (by omega);obtain⟨b1,b2⟩:=Jo N f i;rw[List.range'_succ,List.map_cons,jw,h2,if_pos ⟨h1,b1⟩,b2,JX]
  have e:bat N f i+iA 15 (bcl N f i)=bat N f (i+1):=by rw[pi _ (iU N f i)];rfl
  rw[e];exact ih (i+1) (by omega)
theorem tI(N:Nat)(f:Nat->Bool)(hN:N<=1048576):xK N f (bat N f (nb N)) (rowOf (bat N f (nb N)) fun j=>(eB N f (nb N)).getD j false):=by
 intro i hi;have hb:=jA N f (nb N);have hb2:bat N f (nb N)<=1048576:=by unfold nb at hb⊢;omega
 have hw:=I1 N f i
 have mono:∀d j,bat N f j<=bat N f (j+d):=by
  intro d;induction d with
  | zero=>intro j;exact Nat.le_refl _
  | succ d ih=>intro j;have:=ih j;rw[show j+(d+1)=j+d+1 by omega,bat];omega
 have hm:bat N f (i+1)<=bat N f (nb N):=by
  have:=mono (nb N-(i+1)) (i+1);rw[show i+1+(nb N-(i+1))=nb N by omega]at this;exact this
 rw[bat]at hm;have ck:=dL (bat N f (nb N)) (fun j=>(eB N f (nb N)).getD j false) hb2;rw[pi _ (iU N f i),show kwd (bcl N f i)=dO N f i from rfl]
 have e0:bk (bat N f (nb N)) (rowOf (bat N f (nb N)) fun j=>(eB N f (nb N)).getD j false) (bat N f i) (dO N f i)=0:=by
  unfold bk;rw[if_neg (by rw[ck];simp;omega),if_neg (by omega)]
 refine⟨e0,?_⟩;unfold slcX;rw[if_pos e0,Int.toNat_natCast,Int.toNat_natCast,<-ur (bof N f i) (dO N f i) (oP N f i)];rw[ur (bof N f i) (dO N f i) (oP N f i)];refine(io _ _ _ fun k=>?_).symm
 by_cases c:k<dO N f i
 .rw[eD,List.getD_eq_getElem?_getD,rE N f (nb N) i k hi c];simp[c,show bat N f i+k<bat N f (nb N)by omega]
 .have:bof N f i<2^k:=Nat.lt_of_lt_of_le (oP N f i) (Nat.pow_le_pow_right (by decide) (by omega));rw[Nat.testBit_lt_two_pow this];simp[c]
end Bit
end Go.Proofs.YtleegaihbgbcjaaGreatDoor
namespace Go.Proofs.YtleegaihbgbcjaaGreatDoor
open Go.RowKit Num Bit
def I3(l:List Bool):List Value:=l.map fun b=>Value.bool b
end Go.Proofs.YtleegaihbgbcjaaGreatDoor
namespace Go.Proofs.YtleegaihbgbcjaaGreatDoor
open Go.RowKit Num Bn
namespace Ow
theorem below_alloc(w:World)(o:Obj):Below w.heap.size w (w.alloc o):=(Below.refl _ _).alloc (Nat.le_refl _) _
def gt(xs:List Nat)(i:Nat):Nat:=xs.getD i 0
theorem gt_get(xs:List Nat)(i:Nat)(h:i<xs.length):xs[i]?=some (gt xs i):=by
 unfold gt;rw[List.getD_eq_getElem?_getD,List.getElem?_eq_getElem h];rfl
theorem gt_map(f:Nat->Nat)(n i:Nat)(h:i<n):gt ((List.range n).map f) i=f i:=by
 unfold gt;rw[List.getD_eq_getElem?_getD,List.getElem?_map,List.getElem?_range h];rfl
theorem gt_set(ys:List Nat)(j i v:Nat)(hj:j<ys.length):gt (ys.set j v) i=if j=i then v else gt ys i:=by
 unfold gt;rw[List.getD_eq_getElem?_getD,List.getD_eq_getElem?_getD,List.getElem?_set];by_cases c:j=i
 .subst c;simp[hj]
 .simp[c]
theorem list_ext{xs ys:List Nat}(hl:xs.length=ys.length)(h:∀i,i<xs.length->gt xs i=gt ys i):xs=ys:=by
 refine List.ext_getElem? fun i=>?_;by_cases c:i<xs.length
 .rw[gt_get xs i c,gt_get ys i (by omega),h i c]
 .rw[List.getElem?_eq_none (by omega),List.getElem?_eq_none (by omega)]
def wv(ys:List Nat):List Value:=ys.map fun y:Nat=>Value.int .u64 (y:Int)
theorem length_wv(ys:List Nat):(wv ys).length=ys.length:=by simp[wv]
def Own(w:World)(g:Nat)(ys:List Nat):Prop:=w.heap[g]?=some (.cells (wv ys).toArray 81 (0,0))
theorem own_made{w:World}{base g n:Nat}(h:w.ownsRow base 81 1 (.slice (some ⟨g,0,none⟩) n n) n (madeCells #[.int .u64 0] n).toList):Own w g (List.replicate n 0):=by
 obtain⟨_,h | ⟨g',cap,cur,e,_,hh,_,_,hs,ht⟩⟩:=h
 .simp at h
 .simp only[Value.slice.injEq,Option.some.injEq,Addr.mk.injEq]at e;obtain⟨⟨rfl,_,_⟩,_,rfl⟩:=e;unfold Own;rw[hh]
  have e2:(madeCells #[.int .u64 0] n).toList=wv (List.replicate n 0):=by
   rw[toList_madeCells_one (.int .u64 0) n,wv,List.map_replicate];rfl
  rw[e2]at ht;have e3:cur.toList.take (n*1)=cur.toList:=List.take_of_length_le (by simp;omega);rw[e3]at ht;rw[<-ht]
theorem Own.cell{w:World}{g:Nat}{ys:List Nat}(h:Own w g ys)(j:Nat)(hj:j<ys.length):w.cell? ⟨g,j,none⟩=some (.int .u64 (gt ys j)):=by
 unfold World.cell?;rw[show w.heap[({ block:=g,off:=j,spot:=none }:Addr).block]?=_ from h];simp only[List.getElem?_toArray,wv,List.getElem?_map,gt_get ys j hj];rfl
theorem Own.frozen{w:World}{g:Nat}{ys:List Nat}(h:Own w g ys)(j:Nat):w.frozen? ⟨g,j,none⟩=false:=by
 unfold World.frozen?;rw[show w.heap[({ block:=g,off:=j,spot:=none }:Addr).block]?=_ from h];simp
theorem Own.lt{w:World}{g:Nat}{ys:List Nat}(h:Own w g ys):g<w.heap.size:=(Array.getElem?_eq_some_iff.1 h).1
theorem Own.set{w:World}{g:Nat}{ys:List Nat}(h:Own w g ys)(j v:Nat):Own (w.setCell ⟨g,j,none⟩ (.int .u64 v)) g (ys.set j v):=by
 unfold Own at h⊢;simp only[World.setCell,Array.getElem?_modify];rw[if_pos trivial,h];simp[wv,List.map_set]
theorem Own.drew{w:World}{g:Nat}{ys:List Nat}(h:Own w g ys):Own w.drew g ys:=h
def rowP(n i:Nat):List Nat:=(List.range (n+1)).map (ch i)
def eb(n i j:Nat):List Nat:=(List.range (n+1)).map fun t=>if j<t then ch i t else ch (i-1) t
theorem gj(n i j:Nat):(eb n i j).length=n+1:=by simp[eb]
theorem length_rowP(n i:Nat):(rowP n i).length=n+1:=by simp[rowP]
theorem uj(n i:Nat):eb n i i=rowP n (i-1):=by
 unfold eb rowP;refine List.map_congr_left fun t _=>?_;by_cases c:i<t
 .rw[if_pos c,kY i t c,kY (i-1) t (by omega)]
 .rw[if_neg c]
theorem ui(n i:Nat):eb n i 0=rowP n i:=by
 unfold eb rowP;refine List.map_congr_left fun t _=>?_;by_cases c:0<t
 .rw[if_pos c]
 .obtain rfl:t=0:=by omega
  rw[if_neg c,ix,ix]
theorem jU(n i j t:Nat)(h:t<=n):gt (eb n i j) t=if j<t then ch i t else ch (i-1) t:=gt_map _ _ _ (by omega)
theorem ou(n i t:Nat)(h:t<=n):gt (rowP n i) t=ch i t:=gt_map _ _ _ (by omega)
theorem Ck(n i j:Nat)(hi:1<=i)(hj:1<=j)(hn:j<=n):(eb n i j).set j (ch (i-1) j+ch (i-1) (j-1))=eb n i (j-1):=by
 refine list_ext (by rw[List.length_set,gj,gj]) fun t ht=>?_;rw[List.length_set,gj]at ht;rw[gt_set _ _ _ _ (by rw[gj];omega),jU _ _ _ _ (by omega),jU _ _ _ _ (by omega)]
 by_cases c:j=t
 .subst c;obtain⟨a,rfl⟩:∃a,i=a+1:=⟨i-1,by omega⟩;obtain⟨b,rfl⟩:∃b,j=b+1:=⟨j-1,by omega⟩;rw[if_pos rfl,if_pos (by omega),gO,Nat.add_sub_cancel,Nat.add_sub_cancel];omega
 .rw[if_neg c];by_cases d:j<t
  .rw[if_pos d,if_pos (by omega)]
  .rw[if_neg d,if_neg (by omega)]
theorem AC(n:Nat):(List.replicate (n+1) 0).set 0 1=rowP n 0:=by
 refine list_ext (by rw[List.length_set,length_rowP,List.length_replicate]) fun t ht=>?_;rw[List.length_set,List.length_replicate]at ht;rw[gt_set _ _ _ _ (by simp),ou _ _ _ (by omega)];by_cases c:0=t
 .subst c;rw[if_pos rfl,ix]
 .rw[if_neg c,kY 0 t (by omega)];unfold gt;rw[List.getD_eq_getElem?_getD,List.getElem?_replicate];split<;>rfl
end Ow
namespace Ow
end Ow
namespace Ow
theorem shl_one(k:Nat)(h:k<64):IntKind.u64.wrap ((2:Int)^k)=((2^k:Nat):Int):=by
 have e:((2:Int)^k)=((2^k:Nat):Int):=by rw[Int.natCast_pow];rfl
 have:=iY k h;rw[e,IntKind.wrap_u64];generalize (2^k:Nat)=Z at *;omega
theorem Cu(X p:Nat)(h:X%2^(p+1)=0):X|||2^p=X+2^p:=by
 have e:X=2^(p+1)*(X/2^(p+1)):=by
  have:=Nat.div_add_mod X (2^(p+1));omega
 have lt:2^p<2^(p+1):=by rw[Nat.pow_succ];have:=Nat.two_pow_pos p;omega
 rw[e];exact(Nat.two_pow_add_eq_or_of_lt lt _).symm
theorem uD(X p:Nat)(h:X%2^(p+1)=0):X%2^p=0:=by
 have:=uE X p;have:=Nat.two_pow_pos p;omega
theorem Dt(X p:Nat)(h:X%2^(p+1)=0):(X+2^p)%2^p=0:=by
 rw[Nat.add_mod_right];exact uD X p h
end Ow
open Go.RowKit Num Bit Bn
theorem D3(N:Nat)(M:Int)(ys:List Nat):∀l a out r,out.length<=N->jw N M ys l a out=some r->r.length<=N:=by
 intro l;induction l with
 | nil=>intro a out r h e;simp only[jw,Option.some.injEq]at e;subst e;exact h
 | cons k l ih=>
  intro a out r h e;rw[jw]at e;split at e
  .refine ih _ _ r ?_ e;unfold oZ;rw[List.length_append,uZ];omega
  .cases e
end Go.Proofs.YtleegaihbgbcjaaGreatDoor
namespace Go.Proofs.YtleegaihbgbcjaaGreatDoor
open Num Bit Bn
theorem us(l:List Nat)(W:Nat)(hW:1<=W)(hl:∀i,gt l i<2^W)(i:Nat)(hi:i<l.length):numAt W (mkS l W l.length) i=gt l i:=by
 unfold numAt;refine(io W (gt l i) _ fun k=>?_).symm;by_cases c:k<W
 .unfold mkS
  have e1:(i*W+k)/W=i:=by
   rw[Nat.mul_comm,Nat.mul_add_div (by omega),Nat.div_eq_of_lt c];omega
  have e2:(i*W+k)%W=k:=by rw[Nat.mul_comm,Nat.mul_add_mod,Nat.mod_eq_of_lt c]
  have e3:i*W+k<l.length*W:=by
   have:=ma l.length W i hi;omega
  rw[eD,e1,e2];simp[c,e3]
 .have:gt l i<2^k:=Nat.lt_of_lt_of_le (hl i) (Nat.pow_le_pow_right (by decide) (by omega));rw[Nat.testBit_lt_two_pow this];simp[c]
theorem vV(l:List Nat)(W:Nat)(hW:1<=W)(hW2:W<=64)(hl:l.length*W<=1048576):aZ (l.length:Int) (W:Int) ((l.length*W:Nat):Int) (mkS l W l.length)=true:=by
 unfold aZ;rw[Bool.and_eq_true,decide_eq_true_eq];refine⟨⟨by omega,by omega,by omega,by rw[Int.natCast_mul]⟩,?_⟩;exact dL _ _ hl
theorem oy(m:Nat)(f:Nat->Bool)(n i:Nat)(h:i<n):gt (dP m f n) i=bcl m f i:=by
 unfold dP gt;rw[List.getD_eq_getElem?_getD,List.getElem?_map,List.getElem?_range h];rfl
theorem xF(m:Nat)(f:Nat->Bool)(n i:Nat):gt (dP m f n) i<2^4:=by
 by_cases c:i<n
 .rw[oy m f n i c];have:=iU m f i;omega
 .rw[jr _ _ (by rw[gq];omega)];decide
theorem gK(m:Nat)(hm:m<=1048576):nb m<=69906:=by unfold nb;omega
theorem DY(m:Nat)(f:Nat->Bool):(List.range (nb m)).map (numAt 4 (mkS (dP m f (nb m)) 4 (nb m)))=dP m f (nb m):=by
 unfold dP;refine List.map_congr_left fun i hi=>?_;have hi:=List.mem_range.1 hi;have:=us (dP m f (nb m)) 4 (by decide) (xF m f (nb m)) i (by rw[gq];exact hi)
 rw[gq,oy m f _ i hi]at this;unfold dP at this;exact this
theorem kU(m:Nat)(f:Nat->Bool):frL (eB m f (nb m))=rowOf (bat m f (nb m)) fun j=>(eB m f (nb m)).getD j false:=by
 unfold frL;rw[mo];rfl
theorem Gt(m:Nat)(f:Nat->Bool):frL ((List.range m).map f)=rowOf m f:=by
 unfold frL;rw[List.length_map,List.length_range];refine dc m _ _ fun i hi=>?_;unfold bt;rw[List.getD_eq_getElem?_getD,List.getElem?_map,List.getElem?_range hi];rfl
theorem G6(m:Nat)(f:Nat->Bool)(hm:m<=1048576):
  jw m (bat m f (nb m)) (frL (eB m f (nb m))) ((List.range (nb m)).map (numAt 4 (mkS (dP m f (nb m)) 4 (nb m)))) 0 []=some ((List.range m).map f):=by
 rw[DY,kU];have h:=G5 m f (bat m f (nb m)) _ (tI m f hm) (nb m) 0 (by omega);rw[show min (15*0) m=0 by omega]at h;rw[<-List.range_eq_range']at h;exact h
open Go.RowKit Num Bit Bn
theorem FE:(prog.info? 3).map (fun i=>(i.zero,i.size,i.bytes))=some (some (.int .i64 0),1,8):=by kernel_rfl
def cG(l:List Int):List Value:=l.map fun n:Int=>Value.int .i64 n
def de(m:Nat)(f:Nat->Bool)(G:Nat):List Int:=(List.range G).map fun j=>(bon m f (8*j):Int)
def dd(m:Nat)(f:Nat->Bool)(G:Nat):List Int:=(List.range G).map fun j=>(bat m f (8*j):Int)
theorem pY(m:Nat)(f:Nat->Bool)(G:Nat):cG (de m f G)++[.int .i64 (bon m f (8*G))]=cG (de m f (G+1)):=by
 unfold de cG;rw[List.range_succ,List.map_append,List.map_append];rfl
theorem pQ(m:Nat)(f:Nat->Bool)(G:Nat):cG (dd m f G)++[.int .i64 (bat m f (8*G))]=cG (dd m f (G+1)):=by
 unfold dd cG;rw[List.range_succ,List.map_append,List.map_append];rfl
structure R8 (w wr:World) (m n cap:Nat) (ao:Option Addr) (g:Nat) (ov pv:Value):Prop where
 b1:aa wr w.heap.size [.int .i64 m,.slice ao n cap] 33
 b2:aa wr (w.heap.size+1) [.int .i64 0,.int .i64 0,.int .i64 0,.int .i64 0,.slice none 0 0,.int .i64 0,.slice none 0 0,.slice none 0 0,.slice none 0 0] 40
 bx:aa wr g [.int .i64 m,.int .i64 0,.int .i64 0,.int .i64 0,.slice none 0 0,.int .i64 0,.slice none 0 0,ov,pv] 40
 hg:w.heap.size+1<g
 hw:Below w.heap.size w wr
structure RW (wr:World) (b:Nat) (cv fv ov pv:Value) (p1 p2 G1 G2 m:Nat) (f:Nat->Bool):Prop where
 c:wr.ownsRow b 81 1 cv p1 (wv (dP m f p1))
 o:wr.ownsRow b 4 1 fv (bat m f p2) (I3 (eB m f p2))
 n:wr.ownsRow b 3 1 ov G1 (cG (de m f G1))
 t:wr.ownsRow b 3 1 pv G2 (cG (dd m f G2))
 co:Ap.Apart cv fv
 cn:Ap.Apart cv ov
 ct:Ap.Apart cv pv
 on:Ap.Apart fv ov
 ot:Ap.Apart fv pv
 nt:Ap.Apart ov pv
theorem nB{w:World}{base e n:Nat}{v u:Value}{vs:List Value}{a:Addr}(h:w.ownsRow base e 1 v n vs)(ha:a.block<base):(w.setCell a u).ownsRow base e 1 v n vs:=by
 obtain⟨h1,h2 | ⟨g,cap,cur,e1,e2,hh,r⟩⟩:=h
 .exact⟨h1,.inl h2⟩
 .exact⟨h1,.inr ⟨g,cap,cur,e1,e2,(Below.heap_setCell w a u g (by omega)).trans hh,r⟩⟩
def rwN(o:Option (List Bool)):Nat:=(o.map List.length).getD 0
def i9(o:Option (List Bool)):List Nat:=(o.map frL).getD []
def gN(m:Nat):Nat:=(max 1 (nb m)+7)/8
def rC(m:Nat)(f:Nat->Bool):List Nat:=mkS (dP m f (nb m)) 4 (nb m)
def rO(m:Nat)(f:Nat->Bool):List Nat:=frL (eB m f (nb m))
def rS(m:Nat)(f:Nat->Bool):List Int:=de m f (gN m)
def rT(m:Nat)(f:Nat->Bool):List Int:=dd m f (gN m)
structure RO (base:Nat) (w:World) (C O:List Nat) (S T:List Int) (bo:Option Addr) (bc:Nat) (qo:Option Addr) (qc:Nat) (so:Option Addr) (sc:Nat) (tO:Option Addr) (tc:Nat):Prop where
 c:Wd w bo C
 cl:C.length<=bc
 o:Wd w qo O
 ol:O.length<=qc
 s:Nd w so S
 sl:S.length<=sc
 t:Nd w tO T
 tl:T.length<=tc
 sn:Fr base so
 tn:Fr base tO
theorem kt(m:Nat)(f:Nat->Bool)(G:Nat):(de m f G).length=G:=by simp[de]
theorem mi(m:Nat)(f:Nat->Bool)(G:Nat):(dd m f G).length=G:=by simp[dd]
theorem kj{w:World}{base n c:Nat}{ao:Option Addr}{l:List Int}(h:w.ownsRow base 3 1 (.slice ao n c) n (cG l)):Nd w ao l:=by
 intro h0;have hlen:(cG l).length=n*1:=h.1;have hl:l.length=n:=by simp[cG]at hlen;omega
 have hk:=fun k hk=>h.lt k hk;have hc:=fun g hg=>h.cells (g:=g) hg;obtain⟨_,⟨e,e2⟩ | ⟨g,cap,cur,e,_⟩⟩:=h
 .omega
 .simp only[Value.slice.injEq]at e;obtain⟨rfl,_,rfl⟩:=e;refine⟨g,0,rfl,(hk g rfl).2,fun i hi=>?_⟩
  have hu:(cG l)[i]?=some (.int .i64 (gi l i)):=by
   unfold cG gi;rw[List.getElem?_map,List.getD_eq_getElem?_getD,List.getElem?_eq_getElem hi];rfl
  rw[<-hc g rfl i _ hu];unfold Addr.add;split
  .subst_vars;rfl
  .simp
theorem Fv:(prog.info? 40).map (·.size)=some 9:=by kernel_rfl
theorem Hid.mk8{p:Prop}(h:p):Hid p:=h
end Go.Proofs.YtleegaihbgbcjaaGreatDoor
namespace Go.Proofs.YtleegaihbgbcjaaGreatDoor
open Num Bit
def ax(n:Int):Prop:= -9223372036854775808<=n/\n<=9223372036854775807
def gaE(ok:Bool)(N:Int)(X:List Nat)(i:Int):Int:=if ok then cH N X i else 2
def gaB(ok:Bool)(N:Int)(X:List Nat)(i:Int):Bool:=ok&&dg N X i
def grE(ok:Bool)(N:Int)(i:Int):Int:=if ok then (if i<0\/N<i then 3 else 0)else 2
def grN(ok:Bool)(N:Int)(X:List Nat)(bit:Bool)(i:Int):Int:=if grE ok N i=0 then (cB X bit i.toNat:Int)else 0
def gsE(ok:Bool)(N:Int)(X:List Nat)(bit:Bool)(k:Int):Int:=if ok then (if (cd N X bit k).isSome then 0 else 3)else 2
def gsX(ok:Bool)(N:Int)(X:List Nat)(bit:Bool)(k:Int):Int:=if ok then ((cd N X bit k).getD 0:Int)else 0
open Num Bit Bn
def rDec(N k V:Int)(xs:List Nat)(L:Int)(ys:List Nat):Option (List Bool):=jw N.toNat L ys ((List.range k.toNat).map (numAt V.toNat xs)) 0 []
def kf(N k V M:Int)(xs:List Nat)(L:Int)(ys:List Nat)(S T:List Int)(m:Nat)(f:Nat->Bool):Bool:=
 decide (N=m)&&((decide (k=nb m)&&(decide (V=4)&&(decide (M=(nb m:Int)*4)&&decide (xs=rC m f))))&&((decide (L=bat m f (nb m))&&decide (ys=rO m f))&&(decide (S=rS m f)&&decide (T=rT m f))))
def d_(N k V M:Int)(xs:List Nat)(L:Int)(ys:List Nat)(S T:List Int):Bool:=
 (decide (0<=N/\N<=1048576)&&(aZ k V M xs&&ar L ys))&&kf N k V M xs L ys S T (rwN (rDec N k V xs L ys)) (bitAt (i9 (rDec N k V xs L ys)))
def jJ(N k V M:Int)(xs:List Nat)(L:Int)(ys:List Nat)(S T:List Int):Int:=if d_ N k V M xs L ys S T then (rwN (rDec N k V xs L ys):Int)else 0
def ja(N k V M:Int)(xs:List Nat)(L:Int)(ys:List Nat)(S T:List Int):List Nat:=if d_ N k V M xs L ys S T then i9 (rDec N k V xs L ys)else []
def m9(N k V M:Int)(xs:List Nat)(L:Int)(ys:List Nat)(S T:List Int):Int:=if d_ N k V M xs L ys S T then M+L+64*(S.length:Int)else 0
theorem Ax(o:Option (List Bool))(h:∀l,o=some l->l.length<=1048576):ar (rwN o:Int) (i9 o)=true:=by
 cases o with
 | none=>decide
 | some l=>exact dL _ _ (h l rfl)
theorem Aw(o:Option (List Bool)):Fit (i9 o):=by
 cases o with
 | none=>intro i;unfold gt;simp[i9]
 | some l=>exact db _ _
theorem A7(N k V:Int)(xs:List Nat)(L:Int)(ys:List Nat)(hN:N<=1048576):∀l,rDec N k V xs L ys=some l->l.length<=1048576:=by
 intro l h;have:=D3 N.toNat L ys _ 0 [] l (by simp) h;omega
theorem ng(N k V M:Int)(xs:List Nat)(L:Int)(ys:List Nat)(S T:List Int)(h:d_ N k V M xs L ys S T=true):
  (0<=N/\N<=1048576)/\aZ k V M xs=true/\ar L ys=true/\kf N k V M xs L ys S T (rwN (rDec N k V xs L ys)) (bitAt (i9 (rDec N k V xs L ys)))=true:=by
 unfold d_ at h;simp only[Bool.and_eq_true,decide_eq_true_eq]at h;exact⟨h.1.1,h.1.2.1,h.1.2.2,h.2⟩
theorem A_(N k V M:Int)(xs:List Nat)(L:Int)(ys:List Nat)(S T:List Int)(h:d_ N k V M xs L ys S T=true):ar (jJ N k V M xs L ys S T) (ja N k V M xs L ys S T)=true:=by
 obtain⟨h1,_,_,_⟩:=ng _ _ _ _ _ _ _ _ _ h;unfold jJ ja;rw[if_pos h,if_pos h];exact Ax _ (A7 N k V xs L ys h1.2)
theorem A9(N k V M:Int)(xs:List Nat)(L:Int)(ys:List Nat)(S T:List Int):Fit (ja N k V M xs L ys S T):=by
 unfold ja;split
 .exact Aw _
 .intro i;unfold gt;simp
theorem tM(N k V M:Int)(xs:List Nat)(L:Int)(ys:List Nat)(S T:List Int)(m:Nat)(f:Nat->Bool)(h:kf N k V M xs L ys S T m f=true):
  N=m/\k=nb m/\V=4/\M=(nb m:Int)*4/\xs=rC m f/\L=bat m f (nb m)/\ys=rO m f/\S=rS m f/\T=rT m f:=by
 unfold kf at h;simp only[Bool.and_eq_true,decide_eq_true_eq]at h;obtain⟨h1,⟨h2,h3,h4,h5⟩,⟨h6,h7⟩,h8,h9⟩:=h;exact⟨h1,h2,h3,h4,h5,h6,h7,h8,h9⟩
theorem A6(m:Nat)(f:Nat->Bool):kf m (nb m) 4 ((nb m:Int)*4) (rC m f) (bat m f (nb m)) (rO m f) (rS m f) (rT m f) m f=true:=by
 unfold kf;simp
theorem A8(m:Nat)(f:Nat->Bool)(hm:m<=1048576):rDec m (nb m) 4 (rC m f) (bat m f (nb m)) (rO m f)=some ((List.range m).map f):=by
 unfold rDec rC rO;rw[Int.toNat_natCast,Int.toNat_natCast];exact G6 m f hm
end Go.Proofs.YtleegaihbgbcjaaGreatDoor
namespace Go.Proofs.YtleegaihbgbcjaaGreatDoor
open Go.RowKit Num Bit
theorem nh:(prog.info? 33).map (·.size)=some 2:=by kernel_rfl
open Go.RowKit Num Bit Bn
def fP(N:Int)(xs:List Nat):Int:=if ar N xs then N else 0
def fQ(N:Int)(xs:List Nat):Int:=if ar N xs then (nb N.toNat:Int)else 0
def fN(N:Int)(xs:List Nat):Int:=if ar N xs then 4 else 0
def eV(N:Int)(xs:List Nat):Int:=if ar N xs then (nb N.toNat:Int)*4 else 0
def dZ(N:Int)(xs:List Nat):List Nat:=if ar N xs then rC N.toNat (bitAt xs)else []
def eW(N:Int)(xs:List Nat):Int:=if ar N xs then (bat N.toNat (bitAt xs) (nb N.toNat):Int)else 0
def dY(N:Int)(xs:List Nat):List Nat:=if ar N xs then rO N.toNat (bitAt xs)else []
def dG(N:Int)(xs:List Nat):List Int:=if ar N xs then rS N.toNat (bitAt xs)else []
def dX(N:Int)(xs:List Nat):List Int:=if ar N xs then rT N.toNat (bitAt xs)else []
def m_(N:Int)(xs:List Nat):Int:=if ar N xs then 0 else 2
structure Ki (w:World) (N k V M:Int) (ao:Option Addr) (xs:List Nat) (cap:Nat) (L:Int) (qo:Option Addr) (ys:List Nat) (dap:Nat) (so:Option Addr) (S:List Int) (sc:Nat) (tO:Option Addr) (T:List Int) (tc:Nat):Prop where
 x:Wd w ao xs
 xf:Fit xs
 xc:xs.length<=cap
 y:Wd w qo ys
 yf:Fit ys
 yc:ys.length<=dap
 s:Nd w so S
 sl:S.length<=1048576
 sc:S.length<=sc
 t:Nd w tO T
 tl:T.length<=1048576
 tc:T.length<=tc
def Tb(w:World)(b:Nat)(cs:List Value):Prop:=∃T,aa w b cs T
theorem Tb.lt{w:World}{b:Nat}{cs:List Value}(h:Tb w b cs):b<w.heap.size:=by
 obtain⟨T,h⟩:=h;exact h.lt
theorem Tb.cell{w:World}{b:Nat}{cs:List Value}(h:Tb w b cs)(i:Nat){v:Value}(hv:cs[i]?=some v):w.cell? ⟨b,i,none⟩=some v:=by
 obtain⟨T,h⟩:=h;exact h.cell i hv
theorem Tb.keep{w w':World}{b base:Nat}{cs:List Value}(h:Tb w b cs)(hb:Below base w w')(hlt:b<base):Tb w' b cs:=by
 obtain⟨T,h⟩:=h;exact⟨T,h.keep hb hlt⟩
theorem Tb.kept{w w':World}{b:Nat}{cs:List Value}(h:Tb w b cs)(hb:Below w.heap.size w w'):Tb w' b cs:=h.keep hb h.lt
theorem Tb.other{w:World}{b:Nat}{cs:List Value}(h:Tb w b cs){a:Addr}(ha:b≠a.block)(v:Value):Tb (w.setCell a v) b cs:=by
 obtain⟨T,h⟩:=h;exact⟨T,h.other ha v⟩
def vI(l:List Nat):List Value:=l.map fun n:Nat=>Value.int .i64 (n:Int)
theorem pj(l:List Nat)(i:Nat)(h:i<l.length):(vI l)[i]?=some (.int .i64 (gt l i)):=by
 unfold vI;rw[List.getElem?_map,gt_get l i h];rfl
theorem xQ(l:List Nat)(i:Nat)(h:i<l.length):(wv l)[i]?=some (.int .u64 (gt l i)):=by
 unfold wv;rw[List.getElem?_map,gt_get l i h];rfl
def bj:List Nat:=[0,4,7,9,11,12,13,13,13,13,12,11,9,7,4,0]
def gP:List Nat:=[1,15,105,455,1365,3003,5005,6435,6435,5005,3003,1365,455,105,15,1]
theorem ql:bj.length=16:=rfl
theorem D4:gP.length=16:=rfl
theorem qE(c:Nat)(h:c<=15):gt bj c=kwd c:=by
 match c,h with
 | 0,_ | 1,_ | 2,_ | 3,_ | 4,_ | 5,_ | 6,_ | 7,_ | 8,_ | 9,_ | 10,_ | 11,_ | 12,_ | 13,_ | 14,_ | 15,_=>decide +kernel
theorem FT(c:Nat)(h:c<=15):gt gP c=ch 15 c:=by
 match c,h with
 | 0,_ | 1,_ | 2,_ | 3,_ | 4,_ | 5,_ | 6,_ | 7,_ | 8,_ | 9,_ | 10,_ | 11,_ | 12,_ | 13,_ | 14,_ | 15,_=>decide +kernel
structure GV (w:World):Prop where
 wd:Tb w 0 (vI bj)
 wy:Tb w 1 (wv gP)
theorem GV.keep{w w':World}(h:GV w)(hb:Below w.heap.size w w'):GV w':=⟨h.wd.kept hb,h.wy.kept hb⟩
theorem GV.kept{w w':World}(h:GV w)(hb:Below w.heap.size w w'):GV w':=h.keep hb
theorem GV.two{w:World}(h:GV w):1<w.heap.size:=by
 have:=h.wd.lt;have:=h.wy.lt;omega
structure aE where
 N:Int
 k:Int
 V:Int
 M:Int
 xs:List Nat
 L:Int
 ys:List Nat
 S:List Int
 T:List Int
def dR(w:World)(cs:List Value)(a:aE):Prop:=∃ao cap qo dap so sc tO tc,cs=[.int .i64 a.N,.int .i64 a.k,.int .i64 a.V,.int .i64 a.M,.slice ao a.xs.length cap,.int .i64 a.L,.slice qo a.ys.length dap,.slice so a.S.length sc,.slice tO a.T.length tc]/\(ax a.N/\ax a.k/\ax a.V/\ax a.M/\ax a.L/\eH a.S/\eH a.T)/\Wd w ao a.xs/\Fit a.xs/\a.xs.length<=cap/\Wd w qo a.ys/\Fit a.ys/\a.ys.length<=dap/\Nd w so a.S/\a.S.length<=sc/\Nd w tO a.T/\a.T.length<=tc
structure ba (w:World) (cs:List Value) (a:aE):Prop where
 arg:dR w cs a
 xl:a.xs.length<=1048576
 yl:a.ys.length<=1048576
 sl:a.S.length<=1048576
 tl:a.T.length<=1048576
 gv:GV w
theorem dR.keep{w w':World}{cs:List Value}{a:aE}(h:dR w cs a)(hb:Below w.heap.size w w'):dR w' cs a:=by
 obtain⟨ao,cap,qo,dap,so,sc,tO,tc,e,f,a1,a2,a3,a4,a5,a6,a7,a8,a9,a10⟩:=h;exact⟨ao,cap,qo,dap,so,sc,tO,tc,e,f,a1.keep hb,a2,a3,a4.keep hb,a5,a6,a7.keep hb,a8,a9.keep hb,a10⟩
theorem ba.keep{w w':World}{cs:List Value}{a:aE}(h:ba w cs a)(hb:Below w.heap.size w w'):ba w' cs a:=⟨h.arg.keep hb,h.xl,h.yl,h.sl,h.tl,h.gv.keep hb⟩
theorem dR.len{w:World}{cs:List Value}{a:aE}(h:dR w cs a):(prog.info? 40).map (·.size)=some cs.length:=by
 obtain⟨ao,cap,qo,dap,so,sc,tO,tc,rfl,_⟩:=h;exact Fv
theorem dR.nine{w:World}{cs:List Value}{a:aE}(h:dR w cs a):9=cs.length:=by
 obtain⟨ao,cap,qo,dap,so,sc,tO,tc,rfl,_⟩:=h;rfl
theorem dR.one{w:World}{cs:List Value}{a:aE}(h:dR w cs a):cs.toArray.all (·.oneCell')=true:=by
 obtain⟨ao,cap,qo,dap,so,sc,tO,tc,rfl,_⟩:=h;simp[Value.oneCell']
def kOk8(a:aE):Bool:=d_ a.N a.k a.V a.M a.xs a.L a.ys a.S a.T
def kBN8(a:aE):Int:=jJ a.N a.k a.V a.M a.xs a.L a.ys a.S a.T
def kBX8(a:aE):List Nat:=ja a.N a.k a.V a.M a.xs a.L a.ys a.S a.T
def kZ8(a:aE):Int:=m9 a.N a.k a.V a.M a.xs a.L a.ys a.S a.T
def kB8(N:Int)(xs:List Nat):aE:=⟨fP N xs,fQ N xs,fN N xs,eV N xs,dZ N xs,eW N xs,dY N xs,dG N xs,dX N xs⟩
def kE8(N:Int)(xs:List Nat):Int:=m_ N xs
theorem vr(a:aE)(h:kOk8 a=true):ar (kBN8 a) (kBX8 a)=true:=A_ _ _ _ _ _ _ _ _ _ h
theorem EO(a:aE):Fit (kBX8 a):=A9 _ _ _ _ _ _ _ _ _
theorem CG(m:Nat)(f:Nat->Bool)(G:Nat)(hG:G<=1048576):eH (de m f G):=by
 intro i;by_cases c:i<G
 .unfold de;rw[iO _ _ _ c];have:=xz m f (8*i);omega
 .unfold gi;rw[List.getD_eq_getElem?_getD,List.getElem?_eq_none (by rw[kt];omega)];decide
theorem BD(m:Nat)(f:Nat->Bool)(G:Nat)(hG:G<=1048576):eH (dd m f G):=by
 intro i;by_cases c:i<G
 .unfold dd;rw[iO _ _ _ c];have:=jA m f (8*i);omega
 .unfold gi;rw[List.getD_eq_getElem?_getD,List.getElem?_eq_none (by rw[mi];omega)];decide
theorem jV:Fit []:=fun i=>by unfold gt;simp
theorem kV:eH []:=fun i=>by unfold gi;simp
theorem RO.ki{base:Nat}{w:World}{N:Int}{xs:List Nat}{bo:Option Addr}{bc:Nat}{qo:Option Addr}{qc:Nat}{so:Option Addr}{sc:Nat}{tO:Option Addr}{tc:Nat}(h:RO base w (dZ N xs) (dY N xs) (dG N xs) (dX N xs) bo bc qo qc so sc tO tc)(G:GV w):
  ba w [.int .i64 (fP N xs),.int .i64 (fQ N xs),.int .i64 (fN N xs),.int .i64 (eV N xs),.slice bo (dZ N xs).length bc,.int .i64 (eW N xs),.slice qo (dY N xs).length qc,.slice so (dG N xs).length sc,.slice tO (dX N xs).length tc] (kB8 N xs):=by
 cases hk:ar N xs with
 | false=>
  have e1:fP N xs=0:=by unfold fP;rw[hk];rfl
  have e2:fQ N xs=0:=by unfold fQ;rw[hk];rfl
  have e3:fN N xs=0:=by unfold fN;rw[hk];rfl
  have e4:eV N xs=0:=by unfold eV;rw[hk];rfl
  have e5:dZ N xs=[]:=by unfold dZ;rw[hk];rfl
  have e6:eW N xs=0:=by unfold eW;rw[hk];rfl
  have e7:dY N xs=[]:=by unfold dY;rw[hk];rfl
  have e8:dG N xs=[]:=by unfold dG;rw[hk];rfl
  have e9:dX N xs=[]:=by unfold dX;rw[hk];rfl
  unfold kB8;rw[e5,e7,e8,e9]at h;rw[e1,e2,e3,e4,e5,e6,e7,e8,e9];have z:ax 0:=by unfold ax;decide
  exact⟨⟨bo,bc,qo,qc,so,sc,tO,tc,rfl,⟨z,z,z,z,z,kV,kV⟩,h.c,jV,h.cl,h.o,jV,h.ol,h.s,h.sl,h.t,h.tl⟩,Nat.zero_le _,Nat.zero_le _,Nat.zero_le _,Nat.zero_le _,G⟩
 | true=>
  obtain⟨h0,h1,_,_⟩:=bp N xs hk;have e1:fP N xs=N:=by unfold fP;rw[hk];rfl
  have e2:fQ N xs=(nb N.toNat:Int):=by unfold fQ;rw[hk];rfl
  have e3:fN N xs=4:=by unfold fN;rw[hk];rfl
  have e4:eV N xs=(nb N.toNat:Int)*4:=by unfold eV;rw[hk];rfl
  have e5:dZ N xs=rC N.toNat (bitAt xs):=by unfold dZ;rw[hk];rfl
  have e6:eW N xs=(bat N.toNat (bitAt xs) (nb N.toNat):Int):=by unfold eW;rw[hk];rfl
  have e7:dY N xs=rO N.toNat (bitAt xs):=by unfold dY;rw[hk];rfl
  have e8:dG N xs=rS N.toNat (bitAt xs):=by unfold dG;rw[hk];rfl
  have e9:dX N xs=rT N.toNat (bitAt xs):=by unfold dX;rw[hk];rfl
  unfold kB8;rw[e5,e7,e8,e9]at h;rw[e1,e2,e3,e4,e5,e6,e7,e8,e9];have hn:=gK N.toNat (by omega);have hb:=jA N.toNat (bitAt xs) (nb N.toNat);have hg:gN N.toNat<=8739:=by unfold gN;omega
  have lC:(rC N.toNat (bitAt xs)).length<=1048576:=by unfold rC mkS;rw[cU,gq];omega
  have lO:(rO N.toNat (bitAt xs)).length<=1048576:=by unfold rO frL;rw[cU,mo];omega
  have lS:(rS N.toNat (bitAt xs)).length<=1048576:=by unfold rS;rw[kt];omega
  have lT:(rT N.toNat (bitAt xs)).length<=1048576:=by unfold rT;rw[mi];omega
  have hg2:gN N.toNat<=1048576:=by omega
  have fS:eH (rS N.toNat (bitAt xs)):=by unfold rS;exact CG _ _ _ hg2
  have fT:eH (rT N.toNat (bitAt xs)):=by unfold rT;exact BD _ _ _ hg2
  have fC:Fit (rC N.toNat (bitAt xs)):=by unfold rC mkS;exact db _ _
  have fO:Fit (rO N.toNat (bitAt xs)):=by unfold rO frL;exact db _ _
  generalize rC N.toNat (bitAt xs)=C at *;generalize rO N.toNat (bitAt xs)=O at *;generalize rS N.toNat (bitAt xs)=S at *;generalize rT N.toNat (bitAt xs)=T at *;generalize bat N.toNat (bitAt xs) (nb N.toNat)=L at *
  generalize nb N.toNat=k at *;have n1:ax N:=⟨by omega,by omega⟩;have n2:ax (k:Int):=⟨by omega,by omega⟩;have n3:ax 4:=by unfold ax;decide
  have n4:ax ((k:Int)*4):=⟨by omega,by omega⟩;have n5:ax (L:Int):=⟨by omega,by omega⟩
  exact⟨⟨bo,bc,qo,qc,so,sc,tO,tc,rfl,⟨n1,n2,n3,n4,n5,fS,fT⟩,h.c,fC,h.cl,h.o,fO,h.ol,h.s,h.sl,h.t,h.tl⟩,lC,lO,lS,lT,G⟩
theorem RO.nf{base:Nat}{w:World}{C O:List Nat}{S T:List Int}{bo:Option Addr}{bc:Nat}{qo:Option Addr}{qc:Nat}{so:Option Addr}{sc:Nat}{tO:Option Addr}{tc:Nat}{c0 c1 c2 c3 c4 c5 c6:Value}{n m:Nat}(h:RO base w C O S T bo bc qo qc so sc tO tc):NF base 7 [c0,c1,c2,c3,c4,c5,c6,.slice so n sc,.slice tO m tc]:=
 eK h.sn h.tn
end Go.Proofs.YtleegaihbgbcjaaGreatDoor
