import Derived.Test.YtleegaihbgbcjabGreatDoorT02
import Derived.LaidEql
import Derived.Stop.Asserts
import Derived.RowKitTokens
set_option linter.unusedVariables false
set_option linter.unusedSimpArgs false
set_option maxRecDepth 100000
set_option maxHeartbeats 16000000
open Go.Proofs.Tryz
namespace Go.Proofs.YtleegaihbgbcjabGreatDoor
open Go.RowKit Go.Extern.Stop Go.Stop Go.Extern
def ET(w:World):Prop:=w.cell? ⟨0,0,none⟩=some (.iface 253 (.agg #[.pointer (some ⟨1,213,none⟩)]))
end Go.Proofs.YtleegaihbgbcjabGreatDoor
namespace Go.Proofs.YtleegaihbgbcjabGreatDoor
open Num
namespace Bit
theorem Fw(x m:Nat):Go.bitLen x<=m↔x<2^m:=by
 constructor
 .intro h;by_cases hx:x=0
  .subst hx;exact Nat.two_pow_pos m
  .refine Nat.lt_of_not_le fun hc=>?_
   have h1:¬x<2^Go.bitLen x:=fun h2=>by
    have:=Nat.pow_le_pow_right (n:=2) (by decide) h;omega
   have key:∀d,x<2^(Go.bitLen x+d)->False:=by
    intro d;induction d with
    | zero=>exact h1
    | succ d ih=>
     intro h2;by_cases hb:x/2^(Go.bitLen x+d)%2=1
     .have:=qW x (Go.bitLen x+d) h2 hb;omega
     .exact ih (vB x _ h2 hb)
   refine key x ?_;exact Nat.lt_of_lt_of_le (Nat.lt_two_pow_self (n:=x)) (Nat.pow_le_pow_right (by decide) (by omega))
 .exact iM x m
theorem qY(x m:Nat):bI (x:Int)<=(m:Int)↔x<2^m:=by
 unfold bI;rw[Int.toNat_natCast,<-Fw];omega
def aQ(N W M:Int)(xs:List Nat):Bool:=decide (1<=W/\W<=64/\0<=N/\N*W=M)&&az M xs
theorem dZ(N W M:Int)(xs:List Nat)(h:aQ N W M xs=true):1<=W/\W<=64/\0<=N/\N*W=M/\az M xs=true/\0<=M/\M<=1048576/\N<=M:=by
 unfold aQ at h;rw[Bool.and_eq_true,decide_eq_true_eq]at h;obtain⟨⟨a,b,c,d⟩,e⟩:=h;obtain⟨f,g,_,_⟩:=bp M xs e;refine⟨a,b,c,d,e,f,g,?_⟩;have:=Int.mul_le_mul_of_nonneg_left a c;omega
def numAt(W:Nat)(xs:List Nat)(i:Nat):Nat:=numOf W (fun k=>bitAt xs (i*W+k))
def dJ(N W M:Int)(xs:List Nat)(i:Int):Int:=if aQ N W M xs=false then 2 else if i<0\/N<=i then 3 else 0
def igX(N W M:Int)(xs:List Nat)(i:Int):Nat:=if dJ N W M xs i=0 then numAt W.toNat xs i.toNat else 0
def cd(W:Int)(l:List Nat):Int:=if W<1\/64<W\/1048576<(l.length:Int)*W\/¬(∀j,j<l.length->bI (gt l j)<=W)then 2 else 0
def iD(W:Int)(l:List Nat):Int:=if cd W l=0 then (l.length:Int)else 0
def iC(W:Int)(l:List Nat):Int:=if cd W l=0 then W else 0
def iE(W:Int)(l:List Nat):Int:=if cd W l=0 then (l.length:Int)*W else 0
def mkS(l:List Nat)(W k:Nat):List Nat:=rowOf (l.length*W) (fun j=>decide (j<k*W)&&(gt l (j/W)).testBit (j%W))
def gu(W:Int)(l:List Nat):List Nat:=if cd W l=0 then mkS l W.toNat l.length else []
theorem ra(N W M:Int)(xs:List Nat)(i:Int)(hE:dJ N W M xs i=0):aQ N W M xs=true/\0<=i/\i<N:=by
 unfold dJ at hE;cases h:aQ N W M xs with
 | false=>rw[if_pos h]at hE;omega
 | true=>
  rw[if_neg (by simp[h])]at hE;by_cases c:i<0\/N<=i
  .rw[if_pos c]at hE;omega
  .exact⟨rfl,by omega,by omega⟩
theorem vY(N W M:Int)(xs:List Nat)(i:Int)(hk:aQ N W M xs=true)(h0:0<=i)(h1:i<N):dJ N W M xs i=0:=by
 unfold dJ;rw[if_neg (by simp[hk]),if_neg (by omega)]
theorem rx(N W M i:Int)(a1:1<=W)(a2:W<=64)(a3:0<=N)(a4:N*W=M)(a7:M<=1048576)(i0:0<=i)(i1:i<N):0<=i*W/\i*W+W<=M/\i*W<=M-W/\i*W<=1048576:=by
 have h1:=Int.mul_nonneg i0 (show 0<=W by omega);have h2:=Int.mul_le_mul_of_nonneg_right (show i+1<=N by omega) (show 0<=W by omega);rw[Int.add_mul,Int.one_mul]at h2;omega
theorem wM(N W M:Int)(xs:List Nat)(i:Int)(hk:aQ N W M xs=true)(i0:0<=i)(i1:i<N):slcX M xs (i*W) W=igX N W M xs i/\slcE M xs (i*W) W=dJ N W M xs i:=by
 obtain⟨a1,a2,a3,a4,a5,a6,a7,a8⟩:=dZ N W M xs hk;obtain⟨q1,q2,q3,q4⟩:=rx N W M i a1 a2 a3 a4 a7 i0 i1;have e:=vY N W M xs i hk i0 i1
 have e2:slcE M xs (i*W) W=0:=by
  unfold slcE;rw[if_neg (by simp[a5];omega),if_neg (by omega)]
 refine⟨?_,by rw[e,e2]⟩;unfold slcX igX numAt;rw[if_pos e,if_pos e2,Int.toNat_mul i0 (by omega)]
/-! What lay makes of the words. -/
theorem s9(m r:Nat)(hm:m<18446744073709551616)(hr:r<64):(18446744073709551615-m).testBit r=!m.testBit r:=by
 have h:=Nat.testBit_two_pow_sub_succ (n:=64) (x:=m) (by rw[show(2:Nat)^64=18446744073709551616 from rfl];exact hm) r
 rw[show(2:Nat)^64-(m+1)=18446744073709551615-m by rw[show(2:Nat)^64=18446744073709551616 from rfl];omega]at h;rw[h];simp[hr]
def gS(ys:List Nat)(p W v:Nat):List Nat:=ys.set (p/64) ((gt ys (p/64)&&&(18446744073709551615-(2^W-1)*2^(p%64)%18446744073709551616))|||v*2^(p%64)%18446744073709551616)
def gR(ys:List Nat)(p W v:Nat):List Nat:=
 if 64-p%64<W then (gS ys p W v).set (p/64+1) ((gt ys (p/64+1)&&&(18446744073709551615-(2^W-1)/2^(64-p%64)))|||v/2^(64-p%64))else gS ys p W v
theorem Fp(ys:List Nat)(p W v:Nat):(gS ys p W v).length=ys.length:=by simp[gS]
theorem Fo(ys:List Nat)(p W v:Nat):(gR ys p W v).length=ys.length:=by
 unfold gR;split<;>simp[gS]
theorem JI(ys:List Nat)(p W v:Nat)(hW:1<=W)(hW2:W<=64)(hv:v<2^W)(hl:p+W<=64*ys.length)(i:Nat):
  bitAt (gR ys p W v) i=if p<=i/\i<p+W then v.testBit (i-p)else bitAt ys i:=by
 have hp:p/64<ys.length:=by omega
 have hm:(2:Nat)^W-1<18446744073709551616:=by
  have:=Nat.pow_le_pow_right (n:=2) (j:=64) (by decide) hW2;rw[show(2:Nat)^64=18446744073709551616 from rfl]at this;omega
 have hv0:∀j,W<=j->v.testBit j=false:=fun j hj=>Nat.testBit_lt_two_pow (Nat.lt_of_lt_of_le hv (Nat.pow_le_pow_right (by decide) hj))
 have first:∀r,r<64->((gt ys (p/64)&&&(18446744073709551615-(2^W-1)*2^(p%64)%18446744073709551616))|||v*2^(p%64)%18446744073709551616).testBit r=if p%64<=r/\r<p%64+W then v.testBit (r-p%64)else (gt ys (p/64)).testBit r:=by
  intro r hr;rw[Nat.testBit_or,Nat.testBit_and,s9 _ _ (Nat.mod_lt _ (by decide)) hr,nJ _ _ _ hr,nJ _ _ _ hr,Nat.testBit_two_pow_sub_one];by_cases c:p%64<=r
  .by_cases c2:r<p%64+W
   .rw[if_pos ⟨c,c2⟩];simp[c,show r-p%64<W by omega]
   .rw[if_neg (by omega),hv0 (r-p%64) (by omega)];simp[show ¬r-p%64<W by omega]
  .rw[if_neg (by omega)];simp[c]
 have second:∀r,r<64->((gt ys (p/64+1)&&&(18446744073709551615-(2^W-1)/2^(64-p%64)))|||v/2^(64-p%64)).testBit r=if r+(64-p%64)<W then v.testBit (r+(64-p%64))else (gt ys (p/64+1)).testBit r:=by
  intro r hr;rw[Nat.testBit_or,Nat.testBit_and,s9 _ _ (Nat.lt_of_le_of_lt (Nat.div_le_self _ _) hm) hr,my,my,Nat.testBit_two_pow_sub_one];by_cases c:r+(64-p%64)<W
  .rw[if_pos c,Nat.add_comm r (64-p%64)];simp[show 64-p%64+r<W by omega]
  .rw[if_neg c,hv0 (64-p%64+r) (by omega)];simp[show ¬64-p%64+r<W by omega]
 have at1:∀zs:List Nat,(∀j,j≠p/64->gt zs j=gt ys j)->gt zs (p/64)=((gt ys (p/64)&&&(18446744073709551615-(2^W-1)*2^(p%64)%18446744073709551616))|||v*2^(p%64)%18446744073709551616)->(p%64+W<=64\/i/64≠p/64+1)->bitAt zs i=if p<=i/\i<p+W then v.testBit (i-p)else bitAt ys i:=by
  intro zs h1 h2 h3;unfold bitAt;by_cases e:i/64=p/64
  .rw[e,h2,first _ (by omega)];by_cases c:p<=i/\i<p+W
   .rw[if_pos (by omega),if_pos c];congr 1;omega
   .rw[if_neg (by omega),if_neg c]
  .rw[h1 _ e,if_neg (by omega)]
 have g1:∀j,gt (gS ys p W v) j=if p/64=j then ((gt ys (p/64)&&&(18446744073709551615-(2^W-1)*2^(p%64)%18446744073709551616))|||v*2^(p%64)%18446744073709551616)else gt ys j:=fun j=>gt_set ys _ _ _ hp
 unfold gR;by_cases c:64-p%64<W
 .rw[if_pos c];have hp1:p/64+1<ys.length:=by omega
  have g2:∀j,gt ((gS ys p W v).set (p/64+1) ((gt ys (p/64+1)&&&(18446744073709551615-(2^W-1)/2^(64-p%64)))|||v/2^(64-p%64))) j=if p/64+1=j then ((gt ys (p/64+1)&&&(18446744073709551615-(2^W-1)/2^(64-p%64)))|||v/2^(64-p%64))else gt (gS ys p W v) j:=fun j=>gt_set _ _ _ _ (by rw[Fp];exact hp1)
  by_cases e:i/64=p/64+1
  .unfold bitAt;rw[g2,if_pos e.symm,second _ (by omega)];by_cases d:p<=i/\i<p+W
   .rw[if_pos (by omega),if_pos d];congr 1;omega
   .rw[if_neg (by omega),if_neg d,e]
  .refine Eq.trans ?_ (at1 (gS ys p W v) (fun j hj=>by rw[g1,if_neg (by omega)]) (by rw[g1,if_pos rfl]) (.inr e));unfold bitAt;rw[g2,if_neg (by omega)]
 .rw[if_neg c];exact at1 (gS ys p W v) (fun j hj=>by rw[g1,if_neg (by omega)]) (by rw[g1,if_pos rfl]) (.inl (by omega))
theorem Hi(ys:List Nat)(hf:aA ys)(p W v:Nat)(hv:v<18446744073709551616):aA (gR ys p W v):=by
 have h1:aA (gS ys p W v):=pg ys hf _ _ (kr _ _ (Nat.lt_of_le_of_lt Nat.and_le_left (hf _)) (Nat.mod_lt _ (by decide)));unfold gR;split
 .exact pg _ h1 _ _ (kr _ _ (Nat.lt_of_le_of_lt Nat.and_le_left (hf _)) (Nat.lt_of_le_of_lt (Nat.div_le_self _ _) hv))
 .exact h1
theorem jl(l:List Nat)(W k:Nat):(mkS l W k).length=(l.length*W+63)/64:=cM _ _
theorem nh(l:List Nat)(W k:Nat):aA (mkS l W k):=cY _ _
theorem Er(l:List Nat)(W:Nat):rowOf (l.length*W) (fun _=>false)=mkS l W 0:=da _ _ _ fun i _=>by simp
theorem lF(n W k:Nat)(h:k<n):k*W+W<=n*W:=by
 have:=Nat.mul_le_mul_right W (show k+1<=n by omega);rw[Nat.add_mul,Nat.one_mul]at this;exact this
theorem Es(l:List Nat)(W k:Nat)(hW:1<=W)(hW2:W<=64)(hk:k<l.length)(hv:gt l k<2^W)(hv2:gt l k<18446744073709551616):gR (mkS l W k) (k*W) W (gt l k)=mkS l W (k+1):=by
 have hn:=lF l.length W k hk;refine jU _ _ _ (Hi _ (nh _ _ _) _ _ _ hv2) (by rw[Fo,jl]) fun i _=>?_;rw[JI _ _ _ _ hW hW2 hv (by rw[jl];omega) i];unfold mkS
 rw[fk,Nat.add_mul,Nat.one_mul];by_cases c:k*W<=i/\i<k*W+W
 .rw[if_pos c]
  have e1:i/W=k:=by
   rw[Nat.div_eq_iff (by omega)];rw[Nat.mul_comm]at c;constructor<;>(try rw[Nat.mul_comm])<;>omega
  have e2:i%W=i-k*W:=by
   have:=Nat.div_add_mod i W;rw[e1,Nat.mul_comm]at this;omega
  rw[e1,e2];simp[c.2,show i<l.length*W by omega]
 .rw[if_neg c];by_cases d:i<k*W
  .simp[d,show i<k*W+W by omega]
  .simp[d,show ¬i<k*W+W by omega]
end Bit
open Go.RowKit Num Bit
theorem kV(W:Int)(h0:1<=W)(h1:W<=64)(w:World):
  Qx 201 #[.int .i64 W] w .nilIface:=by
 go_enter func201,ntmps201;go_wp2;go_ret;exact⟨rfl,rfl⟩
theorem yu(W:Int)(h:W<1\/64<W)(w:World):
  Calls prog 201 #[.int .i64 W] w fun e w'=>(∃s,e=.returned (.iface 230 (.agg #[.int .i64 2,.string s])))/\w'=w:=by
 rcases h with h | h
 .go_enter func201,ntmps201;go_wp2;go_ret;exact⟨⟨_,rfl⟩,rfl⟩
 .have h':¬W<1:=by omega
  go_enter func201,ntmps201;go_wp2;go_ret;exact⟨⟨_,rfl⟩,rfl⟩
theorem D9(v W:Int)(h0:0<=v)(h1:v<18446744073709551616)(h:bI v<=W)(w:World):
  Qx 202 #[.int .u64 v,.int .i64 W] w .nilIface:=by
 go_enter func202,ntmps202;go_wp2_with (go_at_call 183;refine(qX _ ?_ ?_ _).mono ?_;exact h0;exact h1;rintro e w' ⟨rfl,rfl⟩);go_ret;exact⟨rfl,rfl⟩
def cP(w:World)(b:Nat)(p q r s:Value):Prop:=b<w.heap.size/\w.cell? ⟨b,0,none⟩=some p/\w.cell? ⟨b,1,none⟩=some q/\w.cell? ⟨b,2,none⟩=some r/\w.cell? ⟨b,3,none⟩=some s
theorem cP.keep{w w':World}{b:Nat}{p q r s:Value}(h:cP w b p q r s)(hb:Below w.heap.size w w'):cP w' b p q r s:=
 ⟨Nat.lt_of_lt_of_le h.1 hb.size,(hb.cell (p:=⟨b,0,none⟩) h.1).trans h.2.1,(hb.cell (p:=⟨b,1,none⟩) h.1).trans h.2.2.1,(hb.cell (p:=⟨b,2,none⟩) h.1).trans h.2.2.2.1,(hb.cell (p:=⟨b,3,none⟩) h.1).trans h.2.2.2.2⟩
theorem cP.new{w w':World}{p q r s:Value}{T:TypeId}(hb:Below (w.alloc (.cells #[p,q,r,s] T)).heap.size (w.alloc (.cells #[p,q,r,s] T)) w'):cP w' w.heap.size p q r s/\Below w.heap.size w w':=by
 have hz:(w.alloc (.cells #[p,q,r,s] T)).heap.size=w.heap.size+1:=by simp
 refine⟨⟨?_,?_,?_,?_,?_⟩,?_⟩
 .have:=hb.size;omega
 .rw[hb.cell (p:=⟨w.heap.size,0,none⟩) (by simp)];simp
 .rw[hb.cell (p:=⟨w.heap.size,1,none⟩) (by simp)];simp
 .rw[hb.cell (p:=⟨w.heap.size,2,none⟩) (by simp)];simp
 .rw[hb.cell (p:=⟨w.heap.size,3,none⟩) (by simp)];simp
 .exact(below_alloc w _).trans (hb.mono (by omega))
theorem vd(N W M:Int)(ao:Option Addr)(xs:List Nat)(cap:Nat)(w:World)(hx:Wd w ao xs)(hk:aQ N W M xs=true):
  Qq 205 #[.agg #[.int .i64 N,.int .i64 W,.int .i64 M,.slice ao xs.length cap]] w .nilIface:=by
 have K:∀o,Wd (w.alloc o) ao xs:=fun o=>hx.keep (below_alloc w o);obtain⟨a1,a2,a3,a4,a5,a6,a7,a8⟩:=dZ N W M xs hk;have d1:(N*W != M)=false:=by simpa using a4
 have hm:0<=N*W:=by omega
 have hm2:N*W<=1048576:=by omega
 clear a4 hk;go_enter func205,ntmps205
 go_wp2_with (first | (go_at_call 201;refine(kV _ ?_ ?_ _).mono ?_;exact a1;exact a2;rintro e w' ⟨rfl,rfl⟩) | (go_at_call 83;refine mr (cg _ _ _ _ _ (K _)) fun w' hb=>?_;have KK:=cP.new hb;clear hb;obtain⟨⟨hz,c0,c1,c2,c3⟩,hw⟩:=KK))
 go_ret;exact⟨rfl,by assumption⟩
theorem EJ(N W M:Int)(ao:Option Addr)(xs:List Nat)(cap:Nat)(w:World)(hx:Wd w ao xs)(hk:aQ N W M xs=false):
  Calls prog 205 #[.agg #[.int .i64 N,.int .i64 W,.int .i64 M,.slice ao xs.length cap]] w fun e w'=>(∃s,e=.returned (.iface 230 (.agg #[.int .i64 2,.string s])))/\Below w.heap.size w w':=by
 have K:∀o,Wd (w.alloc o) ao xs:=fun o=>hx.keep (below_alloc w o);by_cases c:W<1\/64<W
 .clear hk;go_enter func205,ntmps205;go_wp2_with (go_at_call 201;refine(yu _ ?_ _).mono ?_;exact c;rintro e w' ⟨⟨s,rfl⟩,rfl⟩);go_ret;exact⟨⟨_,rfl⟩,below_alloc w _⟩
 have a1:1<=W:=by omega
 have a2:W<=64:=by omega
 clear c;cases hc:az M xs with
 | false=>
  clear hk;go_enter func205,ntmps205
  go_wp2_with (first | (go_at_call 201;refine(kV _ ?_ ?_ _).mono ?_;exact a1;exact a2;rintro e w' ⟨rfl,rfl⟩) | (go_at_call 83;refine mr (cg _ _ _ _ _ (K _)) fun w' hb=>?_;have KK:=cP.new hb;clear hb;obtain⟨⟨hz,c0,c1,c2,c3⟩,hw⟩:=KK))
  go_ret;exact⟨⟨_,rfl⟩,by assumption⟩
 | true=>
  obtain⟨m0,m1,_,_⟩:=bp M xs hc;by_cases n0:N<0
  .clear hk;go_enter func205,ntmps205
   go_wp2_with (first | (go_at_call 201;refine(kV _ ?_ ?_ _).mono ?_;exact a1;exact a2;rintro e w' ⟨rfl,rfl⟩) | (go_at_call 83;refine mr (cg _ _ _ _ _ (K _)) fun w' hb=>?_;have KK:=cP.new hb;clear hb;obtain⟨⟨hz,c0,c1,c2,c3⟩,hw⟩:=KK))
   go_ret;exact⟨⟨_,rfl⟩,by assumption⟩
  have n0':0<=N:=by omega
  by_cases n1:M<N
  .clear hk n0;go_enter func205,ntmps205
   go_wp2_with (first | (go_at_call 201;refine(kV _ ?_ ?_ _).mono ?_;exact a1;exact a2;rintro e w' ⟨rfl,rfl⟩) | (go_at_call 83;refine mr (cg _ _ _ _ _ (K _)) fun w' hb=>?_;have KK:=cP.new hb;clear hb;obtain⟨⟨hz,c0,c1,c2,c3⟩,hw⟩:=KK))
   go_ret;exact⟨⟨_,rfl⟩,by assumption⟩
  have n2:¬N*W=M:=fun e=>by unfold aQ at hk;rw[hc,show decide (1<=W/\W<=64/\0<=N/\N*W=M)=true by simp;omega]at hk;cases hk
  have n3:(N*W != M)=true:=by simpa using n2
  have b1:0<=N*W:=Int.mul_nonneg n0' (by omega);have b2:N*W<=1048576*64:=Int.mul_le_mul (by omega) a2 (by omega) (by omega);clear hk n0 n2;go_enter func205,ntmps205
  go_wp2_with (first | (go_at_call 201;refine(kV _ ?_ ?_ _).mono ?_;exact a1;exact a2;rintro e w' ⟨rfl,rfl⟩) | (go_at_call 83;refine mr (cg _ _ _ _ _ (K _)) fun w' hb=>?_;have KK:=cP.new hb;clear hb;obtain⟨⟨hz,c0,c1,c2,c3⟩,hw⟩:=KK))
  go_ret;exact⟨⟨_,rfl⟩,by assumption⟩
theorem rd(N W M:Int)(ao:Option Addr)(xs:List Nat)(cap:Nat)(w:World)(hx:Wd w ao xs):
  Qq 184 #[.agg #[.int .i64 N,.int .i64 W,.int .i64 M,.slice ao xs.length cap]] w (.bool (aQ N W M xs)):=by
 have K:∀o,Wd (w.alloc o) ao xs:=fun o=>hx.keep (below_alloc w o);cases hk:aQ N W M xs with
 | true=>
  go_enter func184,ntmps184;go_wp2_with (go_at_call 205;refine mr (vd _ _ _ _ _ _ _ (K _) hk) fun w' hb=>?_;have KK:=cP.new hb;clear hb;obtain⟨⟨hz,c0,c1,c2,c3⟩,hw⟩:=KK);go_ret
  exact⟨rfl,by assumption⟩
 | false=>
  go_enter func184,ntmps184;go_wp2_with (go_at_call 205;refine(EJ _ _ _ _ _ _ _ (K _) hk).mono ?_;rintro e w' ⟨⟨s,rfl⟩,hb⟩;have KK:=cP.new hb;clear hb;obtain⟨⟨hz,c0,c1,c2,c3⟩,hw⟩:=KK);go_ret
  exact⟨rfl,by assumption⟩
theorem Cv(N W M:Int)(ao:Option Addr)(xs:List Nat)(cap:Nat)(i:Int)(w:World)(hx:Wd w ao xs)(hE:dJ N W M xs i=0):
  Qq 197 #[.agg #[.int .i64 N,.int .i64 W,.int .i64 M,.slice ao xs.length cap],.int .i64 i] w .nilIface:=by
 have K:∀o,Wd (w.alloc o) ao xs:=fun o=>hx.keep (below_alloc w o);obtain⟨hk,i0,i1⟩:=ra N W M xs i hE;clear hE;go_enter func197,ntmps197
 go_wp2_with (go_at_call 205;refine mr (vd _ _ _ _ _ _ _ (K _) hk) fun w' hb=>?_;have KK:=cP.new hb;clear hb;obtain⟨⟨hz,c0,c1,c2,c3⟩,hw⟩:=KK);go_ret;exact⟨rfl,by assumption⟩
theorem Gn(N W M:Int)(ao:Option Addr)(xs:List Nat)(cap:Nat)(i:Int)(w:World)(hx:Wd w ao xs)(hf:aA xs)(hE:dJ N W M xs i=0):
  Qq 175 #[.agg #[.int .i64 N,.int .i64 W,.int .i64 M,.slice ao xs.length cap],.int .i64 i] w (.tuple #[.int .u64 (igX N W M xs i),.int .i64 (dJ N W M xs i)]):=by
 have K:∀o,Wd (w.alloc o) ao xs:=fun o=>hx.keep (below_alloc w o);obtain⟨hk,i0,i1⟩:=ra N W M xs i hE;obtain⟨a1,a2,a3,a4,a5,a6,a7,a8⟩:=dZ N W M xs hk
 obtain⟨q1,q2,q3,q4⟩:=rx N W M i a1 a2 a3 a4 a7 i0 i1;have R:Hid (slcX M xs (i*W) W=igX N W M xs i/\slcE M xs (i*W) W=dJ N W M xs i):=wM N W M xs i hk i0 i1;clear a4 q3
 go_enter func175,ntmps175;go_wp2_with fail;refine mr (Cv _ _ _ _ _ _ _ _ (K _) hE) fun w1 hb=>?_;have KK:=cP.new hb;clear hb K;obtain⟨⟨hz,c0,c1,c2,c3⟩,hw⟩:=KK;go_wp2_with fail
 refine mr (nP _ _ _ _ _ _ _ (hx.keep hw) hf (by omega) (by omega) (by omega) (by omega)) fun w2 hb=>?_;have hw2:=bg hw hb;clear hb;go_wp2;go_ret2
 exact⟨dm (congrArg (Value.int IntKind.u64) (congrArg Int.ofNat R.out.1)) (congrArg (Value.int IntKind.i64) R.out.2),hw2⟩
theorem tN(v W:Int)(h0:0<=v)(h1:v<18446744073709551616)(w:World):
  Qx 163 #[.int .u64 v,.int .i64 W] w (.bool (decide (bI v<=W))):=by
 go_enter func163,ntmps163;go_wp2_with (go_at_call 162;refine(qe _ ?_ ?_ _).mono ?_;exact h0;exact h1;rintro e w' ⟨rfl,rfl⟩);go_ret;exact⟨rfl,rfl⟩
theorem jq(N W M:Int)(ao:Option Addr)(xs:List Nat)(cap:Nat)(w:World)(hx:Wd w ao xs)(hf:aA xs):
  Qq 189 #[.agg #[.int .i64 N,.int .i64 W,.int .i64 M,.slice ao xs.length cap]] w (.bool (aQ N W M xs)):=by
 have K:∀o,Wd (w.alloc o) ao xs:=fun o=>hx.keep (below_alloc w o);by_cases a1:1<=W
 case neg=>
  have d1:decide (1<=W)=false:=by simpa using a1
  have R:Hid (false=aQ N W M xs):=by unfold Hid aQ;rw[show decide (1<=W/\W<=64/\0<=N/\N*W=M)=false by simp;omega];rfl
  go_enter func189,ntmps189;go_wp2;go_ret;exact⟨dq R.out,below_alloc w _⟩
 by_cases a2:W<=64
 case neg=>
  have d2:decide (W<=64)=false:=by simpa using a2
  have R:Hid (false=aQ N W M xs):=by unfold Hid aQ;rw[show decide (1<=W/\W<=64/\0<=N/\N*W=M)=false by simp;omega];rfl
  go_enter func189,ntmps189;go_wp2;go_ret;exact⟨dq R.out,below_alloc w _⟩
 by_cases a3:0<=N
 case neg=>
  have d3:decide (0<=N)=false:=by simpa using a3
  have R:Hid (false=aQ N W M xs):=by unfold Hid aQ;rw[show decide (1<=W/\W<=64/\0<=N/\N*W=M)=false by simp;omega];rfl
  go_enter func189,ntmps189;go_wp2;go_ret;exact⟨dq R.out,below_alloc w _⟩
 by_cases a4:N<=1048576
 case neg=>
  have d4:decide (N<=1048576)=false:=by simpa using a4
  have R:Hid (false=aQ N W M xs):=by
   unfold Hid;cases h:aQ N W M xs with
   | false=>rfl
   | true=>obtain⟨_,_,_,_,_,_,b7,b8⟩:=dZ N W M xs h;omega
  go_enter func189,ntmps189;go_wp2;go_ret;exact⟨dq R.out,below_alloc w _⟩
 have b1:0<=N*W:=Int.mul_nonneg a3 (by omega);have b2:N*W<=1048576*64:=Int.mul_le_mul a4 a2 (by omega) (by omega);cases hc:az M xs with
 | false=>
  have R:Hid (false=aQ N W M xs):=by unfold Hid aQ;rw[hc,Bool.and_false]
  go_enter func189,ntmps189;go_wp2_with (go_at_call 64;refine mr (dB _ _ _ _ _ (K _) hf) fun w' hb=>?_;have KK:=cP.new hb;clear hb;obtain⟨⟨hz,c0,c1,c2,c3⟩,hw⟩:=KK);go_ret
  exact⟨dq R.out,by assumption⟩
 | true=>
  have R:Hid ((M==N*W)=aQ N W M xs):=by
   unfold Hid aQ;rw[hc,Bool.and_true,Bool.eq_iff_iff,beq_iff_eq,decide_eq_true_eq];omega
  go_enter func189,ntmps189;go_wp2_with (go_at_call 64;refine mr (dB _ _ _ _ _ (K _) hf) fun w' hb=>?_;have KK:=cP.new hb;clear hb;obtain⟨⟨hz,c0,c1,c2,c3⟩,hw⟩:=KK);go_ret
  exact⟨dq R.out,by assumption⟩
theorem Gf(N W M:Int)(ao:Option Addr)(xs:List Nat)(cap:Nat)(i:Int)(w:World)(hx:Wd w ao xs)(hf:aA xs):
  Qq 214 #[.agg #[.int .i64 N,.int .i64 W,.int .i64 M,.slice ao xs.length cap],.int .i64 i] w (.tuple #[.int .u64 (igX N W M xs i),.int .i64 (dJ N W M xs i)]):=by
 have K:∀o,Wd (w.alloc o) ao xs:=fun o=>hx.keep (below_alloc w o);by_cases hE:dJ N W M xs i=0
 .obtain⟨hk,i0,i1⟩:=ra N W M xs i hE;obtain⟨a1,a2,a3,a4,a5,a6,a7,a8⟩:=dZ N W M xs hk;obtain⟨q1,q2,q3,q4⟩:=rx N W M i a1 a2 a3 a4 a7 i0 i1
  have R:Hid (slcX M xs (i*W) W=igX N W M xs i/\slcE M xs (i*W) W=dJ N W M xs i):=wM N W M xs i hk i0 i1;clear a4 q3 hE;go_enter func214,ntmps214;go_wp2_with fail
  refine mr (jq _ _ _ _ _ _ _ (K _) hf) fun w1 hb=>?_;have KK:=cP.new hb;clear hb K;obtain⟨⟨hz,c0,c1,c2,c3⟩,hw⟩:=KK;go_wp2_with fail
  refine mr (tL _ _ _ _ _ _ _ (hx.keep hw) hf (by omega) (by omega) (by omega) (by omega)) fun w2 hb=>?_;have hw2:=bg hw hb;clear hb;go_wp2;go_ret2
  exact⟨dm (congrArg (Value.int IntKind.u64) (congrArg Int.ofNat R.out.1)) (congrArg (Value.int IntKind.i64) R.out.2),hw2⟩
 .have R:Hid (0=((igX N W M xs i:Nat):Int)):=by unfold igX Hid;rw[if_neg hE];rfl
  cases hk:aQ N W M xs with
  | false=>
   have RE:Hid (2=dJ N W M xs i):=by unfold dJ Hid;rw[if_pos hk]
   clear hE;go_enter func214,ntmps214;go_wp2_with (go_at_call 189;refine mr (jq _ _ _ _ _ _ _ (K _) hf) fun w' hb=>?_;have KK:=cP.new hb;clear hb;obtain⟨⟨hz,c0,c1,c2,c3⟩,hw⟩:=KK)
   go_ret2;exact⟨dm (congrArg (Value.int IntKind.u64) R.out) (congrArg (Value.int IntKind.i64) RE.out),by assumption⟩
  | true=>
   have hc:i<0\/N<=i:=by
    unfold dJ at hE;rw[if_neg (by simp[hk])]at hE;by_cases h:i<0\/N<=i
    .exact h
    .rw[if_neg h]at hE;exact absurd rfl hE
   have RE:Hid (3=dJ N W M xs i):=by unfold dJ Hid;rw[if_neg (by simp[hk]),if_pos hc]
   clear hE;by_cases i0:i<0
   .clear hc;go_enter func214,ntmps214
    go_wp2_with (go_at_call 189;refine mr (jq _ _ _ _ _ _ _ (K _) hf) fun w' hb=>?_;have KK:=cP.new hb;clear hb;obtain⟨⟨hz,c0,c1,c2,c3⟩,hw⟩:=KK);go_ret2
    exact⟨dm (congrArg (Value.int IntKind.u64) R.out) (congrArg (Value.int IntKind.i64) RE.out),by assumption⟩
   .have i1:N<=i:=by omega
    clear hc;go_enter func214,ntmps214
    go_wp2_with (go_at_call 189;refine mr (jq _ _ _ _ _ _ _ (K _) hf) fun w' hb=>?_;have KK:=cP.new hb;clear hb;obtain⟨⟨hz,c0,c1,c2,c3⟩,hw⟩:=KK);go_ret2
    exact⟨dm (congrArg (Value.int IntKind.u64) R.out) (congrArg (Value.int IntKind.i64) RE.out),by assumption⟩
theorem AZ(n:Int)(k:Nat)(w:World)(h0:0<=n)(h1:n<=1048576)(hk:(n+63)/64=(k:Int)):
  Calls prog 59 #[.int .i64 n] w fun e w'=>∃g,e=.returned (.tuple #[.agg #[.int .i64 n,.slice (some ⟨g,0,none⟩) k k],.int .i64 0])/\w.heap.size<=g/\g<w'.heap.size/\Own w' g (List.replicate k 0)/\Below w.heap.size w w':=by
 obtain⟨i0,hi,hz0,hz1,hz2⟩:=info_parts Tryz.info126;have hk2:k<=1048576:=by omega
 go_enter func59,ntmps59
 go_wp2_with (first | (go_at_call 105;refine(nQ _ ?_ ?_ _).mono ?_;(omega);(omega);rintro e w' ⟨rfl,rfl⟩) | (at_make;refine wpList_make_full _ rfl _ _ 51 rfl (w.heap.size+1) 126 i0 (.int .u64 0) 1 underlying51 hi hz0 hz1 .i64 .i64 _ _ k rfl rfl rfl rfl ?b2 ?b3 ?b4 ?_))
 case b2=>rw[hz2];omega
 case b3=>unfold maxLen;omega
 case b4=>simp
 intro w1 hown hgr;have hb1:Below (w.alloc (.cells #[.int .i64 0,.slice none 0 0] 53)).heap.size (w.alloc (.cells #[.int .i64 0,.slice none 0 0] 53)) w1:=(Below.refl _ _).grown hgr (Nat.le_refl _) (fun k h=>by cases h)
 have hO:Own w1 (w.heap.size+1) (List.replicate k 0):=own_made hown;obtain⟨k0,k1,hz,hw⟩:=cG hb1;obtain⟨k2,k3⟩:=px hb1;have hlt:=hO.lt;clear hown hgr hi hz0 hz1 hz2 hb1;go_wp2
 refine bodyPost_ret (v:=.tuple #[.agg #[.int .i64 n,.slice (some ⟨w.heap.size+1,0,none⟩) k k],.int .i64 0]) (by simp[results,Tryz.results59,go_sem,k0,k1]) rfl ⟨w.heap.size+1,rfl,by omega,?_,?_,?_⟩
 .rw[fA,fA];exact hlt
 .exact(hO.set_other (by simp) _).set_other (by simp) _
 .exact(hw.setCell (by simp) _).setCell (by simp) _
def k_(ys:List Nat)(p:Nat)(x:Bool):List Nat:=
 if x then ys.set (p/64) ((gt ys (p/64)&&&(18446744073709551615-2^(p%64)))|||2^(p%64))else ys.set (p/64) (gt ys (p/64)&&&(18446744073709551615-2^(p%64)))
theorem AY(ys:List Nat)(g cap p:Nat)(x:Bool)(w:World)(hO:Own w g ys)(hp:p<=2097152)(hf:aA ys)(h1:p/64<ys.length):
  Calls prog 60 #[.slice (some ⟨g,0,none⟩) ys.length cap,.int .i64 p,.bool x] w fun e w'=>e=.returned (.tuple #[])/\Own w' g (k_ ys p x)/\bh g w w':=by
 have l1':(p:Int)/64<(ys.length:Int):=by omega
 have e1:=hO.cell (p/64) h1;have f1:=hO.frozen (p/64);have SO:Hid (IntKind.u64.wrap ((2:Int)^(p%64))=((2^(p%64):Nat):Int)):=shl_one _ (by omega)
 have SP:Hid (2^(p%64)<18446744073709551616):=fu _ (by omega);have SA:Hid (gt ys (p/64)&&&(18446744073709551615-2^(p%64))<18446744073709551616):=Nat.lt_of_le_of_lt Nat.and_le_left (hf _)
 cases x with
 | false=>
  go_enter func60,ntmps60;go_wp2;go_end0;rw[SO.out,u64_andNot_nat _ _ (hf _) SP.out];exact⟨rfl,hO.set _ _,(bh.refl _ _).set _ _⟩
 | true=>
  go_enter func60,ntmps60;go_wp2;go_end0;rw[SO.out,u64_andNot_nat _ _ (hf _) SP.out,u64_or_nat _ _ SA.out SP.out];refine⟨rfl,?_,((bh.refl _ _).set _ _).set _ _⟩
  have h:=(hO.set (p/64) (gt ys (p/64)&&&(18446744073709551615-2^(p%64)))).set (p/64) ((gt ys (p/64)&&&(18446744073709551615-2^(p%64)))|||2^(p%64));rw[List.set_set]at h;exact h
theorem Am(N:Int)(xs:List Nat)(hf:aA xs)(hk:az N xs=true)(n:Nat)(hn:(n:Int)<N)(x:Bool):
  k_ xs n x=rowOf N.toNat (fun j=>if j=n then x else bitAt xs j):=by
 cases x with
 | false=>exact zQ N xs hf hk n hn
 | true=>
  have e:=tj N xs hf hk n hn;rw[<-e];unfold k_;rw[if_pos rfl];congr 1
  refine xe _ _ (kr _ _ (Nat.lt_of_le_of_lt Nat.and_le_left (hf _)) (fu _ (by omega))) (kr _ _ (hf _) (fu _ (by omega))) fun k hk64=>?_
  rw[Nat.testBit_or,Nat.testBit_or,Nat.testBit_and,sZ _ _ (by omega) hk64,Nat.testBit_two_pow];by_cases c:n%64=k<;>simp[c]
theorem AX(ys:List Nat)(l g cap p:Nat)(x:Bool)(w:World)(hl:ys.length=l)(hO:Own w g ys)(hp:p<=2097152)(hf:aA ys)(h1:p/64<l):
  Calls prog 60 #[.slice (some ⟨g,0,none⟩) l cap,.int .i64 p,.bool x] w fun e w'=>e=.returned (.tuple #[])/\Own w' g (k_ ys p x)/\bh g w w':=by
 subst hl;exact AY ys g cap p x w hO hp hf h1
theorem GR(l:List Bool)(q:Nat)(hq:q<l.length)(hl:l.length<=1048576):k_ (cu l q) q (bt l q)=cu l (q+1):=by
 have e:=Am l.length (cu l q) (cY _ _) (gB _ _ hl) q (by omega) (bt l q);rw[e,Int.toNat_natCast];refine da _ _ _ fun i hi=>?_;unfold cu;rw[fk];by_cases c:i=q
 .subst c;simp
 .rw[if_neg c];by_cases c2:i<q
  .simp[hi,c2,show i<q+1 by omega]
  .simp[c2,show ¬i<q+1 by omega]
theorem lh(ao:Option Addr)(l:List Bool)(cap k:Nat)(w:World)(hx:Bl w ao l)(hl:l.length<=1048576)(hk:k=(l.length+63)/64):
  Calls prog 33 #[.slice ao l.length cap] w fun e w'=>∃g,e=.returned (.tuple #[.agg #[.int .i64 l.length,.slice (some ⟨g,0,none⟩) k k],.int .i64 0])/\w.heap.size<=g/\Own w' g (cu l l.length)/\Below w.heap.size w w':=by
 have HK:Hid (k=(l.length+63)/64):=hk;have hk1:((l.length:Int)+63)/64=(k:Int):=by omega
 have HK1:Hid (((l.length:Int)+63)/64=(k:Int)):=hk1;clear hk hk1;go_enter func33,ntmps33;go_wp2_with fail;refine(AZ _ k _ (Int.natCast_nonneg _) (by omega) HK1.out).mono ?_
 rintro e w1 ⟨g,rfl,hg1,hg2,hO,hb⟩;have KK:=cG hb;have KF:=px hb;have hg0:w.heap.size+1<=g:=by simpa using hg1
 clear hb hg1;obtain⟨k0,k1,hz,hw⟩:=KK;obtain⟨k2,k3⟩:=KF;go_wp2
 go_loopw [6] (fun i wr=>∃q:Nat,q<=l.length/\i=.int .i64 q/\Own wr g (cu l q)/\(wr.cell? ⟨w1.heap.size,0,none⟩=some (.int .i64 l.length)/\wr.cell? ⟨w1.heap.size,1,none⟩=some (.slice (some ⟨g,0,none⟩) k k))/\(wr.cell? ⟨w.heap.size,0,none⟩=some (.int .i64 0)/\wr.cell? ⟨w.heap.size,1,none⟩=some (.slice none 0 0)/\wr.frozen? ⟨w.heap.size,0,none⟩=false/\wr.frozen? ⟨w.heap.size,1,none⟩=false)/\Below w.heap.size w wr) (fun i _=>l.length-(intOf i).toNat)
 case atStart=>
  have hb:=below_alloc w1 (.cells #[.int .i64 l.length,.slice (some ⟨g,0,none⟩) k k] 53)
  refine⟨0,Nat.zero_le _,rfl,?_,⟨by simp,by simp⟩,⟨(hb.cell (p:=⟨w.heap.size,0,none⟩) hz).trans k0,(hb.cell (p:=⟨w.heap.size,1,none⟩) hz).trans k1,(hb.frozen (p:=⟨w.heap.size,0,none⟩) hz).trans k2,(hb.frozen (p:=⟨w.heap.size,1,none⟩) hz).trans k3⟩,hw.trans (hb.mono (by omega))⟩
  have e1:cu l 0=List.replicate k 0:=by
   rw[ld l.length k HK.out];exact da _ _ _ fun i _=>by simp
  rw[e1];exact hO.keep hb
 case round=>
  obtain⟨q,hq,rfl,hOr,⟨r0,r1⟩,⟨r3,r4,r5,r6⟩,hwr⟩:=hrel;by_cases hlt:q<l.length
  .obtain⟨b,off,rfl,hb,hc⟩:=hx (by omega);have e1:=(hwr.cell (p:=⟨b,off+q,none⟩) hb).trans (hc q hlt);have hlt3:(q:Int)<(l.length:Int):=by omega
   have HQ:Hid (q/64<k):=by have:=HK.out;unfold Hid;omega
   have FS:Hid (k_ (cu l q) q (bt l q)=cu l (q+1)):=GR l q hlt hl;have HLN:Hid ((cu l q).length=k):=by unfold Hid;rw[vy];exact HK.out.symm
   clear hc;go_wp2
   go_region_held3 (fun w'=>w'.cell? ⟨w1.heap.size,1,none⟩=some (.slice (some ⟨g,0,none⟩) k k)/\w'.cell? ⟨b,off+q,none⟩=some (.bool (bt l q))) (first | go_keep | (refine⟨?_,?_⟩<;>assumption))
    (first | (go_at_call 60;refine(AX (cu l q) k g k q (bt l q) _ HLN.out ?_ (by omega) (wV l q) HQ.out).mono ?_;(exact hOr);rintro e w4 ⟨rfl,hO4,hT⟩;have q0:=(hT.cell (p:=⟨w1.heap.size,0,none⟩) (show w1.heap.size≠g by omega)).trans r0;have q1:w4.cell? ⟨w1.heap.size,1,none⟩=some (.slice (some ⟨g,0,none⟩) k k):=(hT.cell (p:=⟨w1.heap.size,1,none⟩) (show w1.heap.size≠g by omega)).trans r1;have q2:w4.cell? ⟨b,off+q,none⟩=some (.bool (bt l q)):=(hT.cell (p:=⟨b,off+q,none⟩) (show b≠g by omega)).trans e1;have q3:=(hT.cell (p:=⟨w.heap.size,0,none⟩) (show w.heap.size≠g by omega)).trans r3;have q4:=(hT.cell (p:=⟨w.heap.size,1,none⟩) (show w.heap.size≠g by omega)).trans r4;have q5:=(hT.frozen (p:=⟨w.heap.size,0,none⟩) (show w.heap.size≠g by omega)).trans r5;have q6:=(hT.frozen (p:=⟨w.heap.size,1,none⟩) (show w.heap.size≠g by omega)).trans r6;have hw4:=hwr.trans (Below.trans (Below.drew (Below.refl _ _)) (hT.below (B:=w.heap.size) (by omega)));clear hT))
   go_wp2;rw[FS.out]at hO4;exact⟨⟨q+1,by omega,by go_num,hO4,⟨q0,q1⟩,⟨q3,q4,q5,q6⟩,hw4⟩,by simp only[intOf];omega⟩
  .have hq2:q=l.length:=by omega
   rw[hq2]at hOr;clear hq2;go_wp2;refine bodyPost_ret (v:=.tuple #[.agg #[.int .i64 l.length,.slice (some ⟨g,0,none⟩) k k],.int .i64 0]) (by simp[results,Tryz.results33,go_sem,r3,r4]) rfl ⟨g,rfl,by omega,?_,?_⟩
   .exact(hOr.set_other (by simp;omega) _).set_other (by simp;omega) _
   .exact(hwr.setCell (by simp) _).setCell (by simp) _
theorem A_(ao:Option Addr)(l:List Bool)(cap:Nat)(w:World)(hx:Bl w ao l)(hl:l.length<=1048576):
  Calls prog 33 #[.slice ao l.length cap] w fun e w'=>∃bo dap,e=.returned (.tuple #[.agg #[.int .i64 l.length,.slice bo (aC l).length dap],.int .i64 0])/\xT w w' bo (aC l) dap:=by
 refine(lh ao l cap _ w hx hl rfl).mono ?_;rintro e w' ⟨g,rfl,_,hO,hb⟩;rw[mc]at hO;have e5:(aC l).length=(l.length+63)/64:=cM _ _
 exact⟨some ⟨g,0,none⟩,(l.length+63)/64,by rw[e5],hO.wd,cY _ _,by omega,hb⟩
theorem bh.drew{g:Nat}{a w:World}(h:bh g a w):bh g a w.drew:=⟨h.os,h.tape,h.output,h.size,h.block⟩
theorem Own.drew{w:World}{g:Nat}{ys:List Nat}(h:Own w g ys):Own w.drew g ys:=h
theorem qE(W m:Nat)(hm:maskI (W:Int)=(m:Int))(w:World):
  Qx 148 #[.int .i64 W] w (.int .u64 (m:Int)):=by
 have h:=mO (W:Int) w;rw[hm]at h;exact h
theorem vf(W:Nat)(h:W<=64):maskI (W:Int)=((2^W-1:Nat):Int):=by
 unfold maskI;rw[Int.toNat_natCast,Nat.min_eq_left h]
theorem FB(ys:List Nat)(l g cap p W v:Nat)(w:World)(hl:ys.length=l)(hO:Own w g ys)(hf:aA ys)(hW:1<=W)(hW2:W<=64)(hv:v<18446744073709551616)(hp:p+W<=64*ys.length)(hpb:p<=1048576):
  Calls prog 181 #[.slice (some ⟨g,0,none⟩) l cap,.int .i64 p,.int .i64 W,.int .u64 v] w fun e w'=>e=.returned (.tuple #[])/\Own w' g (gR ys p W v)/\bh g w w':=by
 subst hl;obtain⟨m,hm⟩:∃m:Nat,m=2^W-1:=⟨_,rfl⟩;have hmm:Hid (maskI (W:Int)=(m:Int)):=by rw[hm];exact vf W hW2
 have hmb:Hid (m<18446744073709551616):=by
  have:=Nat.pow_le_pow_right (n:=2) (j:=64) (by decide) hW2;rw[show(2:Nat)^64=18446744073709551616 from rfl]at this;unfold Hid;omega
 have h1:p/64<ys.length:=by omega
 have l1':(p:Int)/64<(ys.length:Int):=by omega
 have e1:=hO.cell (p/64) h1;have f1:=hO.frozen (p/64)
 have A1:Hid (bits .andNot .u64 (gt ys (p/64):Int) ((m*2^(p%64)%18446744073709551616:Nat):Int)=((gt ys (p/64)&&&(18446744073709551615-m*2^(p%64)%18446744073709551616):Nat):Int)):=u64_andNot_nat _ _ (hf _) (Nat.mod_lt _ (by decide))
 have A2:Hid (bits .or .u64 ((gt ys (p/64)&&&(18446744073709551615-m*2^(p%64)%18446744073709551616):Nat):Int) ((v*2^(p%64)%18446744073709551616:Nat):Int)=(((gt ys (p/64)&&&(18446744073709551615-m*2^(p%64)%18446744073709551616))|||v*2^(p%64)%18446744073709551616:Nat):Int)):=u64_or_nat _ _ (Nat.lt_of_le_of_lt Nat.and_le_left (hf _)) (Nat.mod_lt _ (by decide))
 have HM:Hid (m=2^W-1):=hm;clear hm;by_cases c:64-p%64<W
 .have c':(64:Int)-(p:Int)%64<(W:Int):=by omega
  have h2:p/64+1<ys.length:=by omega
  have l2':(p:Int)/64+1<(ys.length:Int):=by omega
  have e2:=hO.cell (p/64+1) h2;have f2:=hO.frozen (p/64+1)
  have B1:Hid (bits .andNot .u64 (gt ys (p/64+1):Int) ((m/2^(64-p%64):Nat):Int)=((gt ys (p/64+1)&&&(18446744073709551615-m/2^(64-p%64)):Nat):Int)):=u64_andNot_nat _ _ (hf _) (Nat.lt_of_le_of_lt (Nat.div_le_self _ _) hmb.out)
  have B2:Hid (bits .or .u64 ((gt ys (p/64+1)&&&(18446744073709551615-m/2^(64-p%64)):Nat):Int) ((v/2^(64-p%64):Nat):Int)=(((gt ys (p/64+1)&&&(18446744073709551615-m/2^(64-p%64)))|||v/2^(64-p%64):Nat):Int)):=u64_or_nat _ _ (Nat.lt_of_le_of_lt Nat.and_le_left (hf _)) (Nat.lt_of_le_of_lt (Nat.div_le_self _ _) hv)
  have R:Hid (gR ys p W v=((ys.set (p/64) ((gt ys (p/64)&&&(18446744073709551615-m*2^(p%64)%18446744073709551616))|||v*2^(p%64)%18446744073709551616)).set (p/64+1) ((gt ys (p/64+1)&&&(18446744073709551615-m/2^(64-p%64)))|||v/2^(64-p%64)))):=by
   unfold Hid gR gS;rw[if_pos c,HM.out]
  clear c;go_enter func181,ntmps181;go_wp2_with (go_at_call 148;refine(qE _ _ hmm.out _).mono ?_;rintro e w' ⟨rfl,rfl⟩);go_region;go_wp2;go_region;go_wp2;go_end0
  rw[R.out,ii,ii,A1.out,A2.out,iJ,iJ,B1.out,B2.out];exact⟨rfl,((hO.set _ _).set _ _).drew.drew,(((bh.refl _ _).set _ _).set _ _).drew.drew⟩
 .have c':¬(64:Int)-(p:Int)%64<(W:Int):=by omega
  have R:Hid (gR ys p W v=(ys.set (p/64) ((gt ys (p/64)&&&(18446744073709551615-m*2^(p%64)%18446744073709551616))|||v*2^(p%64)%18446744073709551616))):=by
   unfold Hid gR gS;rw[if_neg c,HM.out]
  clear c;go_enter func181,ntmps181;go_wp2_with (go_at_call 148;refine(qE _ _ hmm.out _).mono ?_;rintro e w' ⟨rfl,rfl⟩);go_region;go_wp2;go_end0;rw[R.out,ii,ii,A1.out,A2.out]
  exact⟨rfl,(hO.set _ _).drew,((bh.refl _ _).set _ _).drew⟩
theorem oV(W:Int)(l:List Nat)(h:cd W l=0):1<=W/\W<=64/\(l.length:Int)*W<=1048576/\∀j,j<l.length->bI (gt l j)<=W:=by
 unfold cd at h;by_cases c:W<1\/64<W\/1048576<(l.length:Int)*W\/¬(∀j,j<l.length->bI (gt l j)<=W)
 .rw[if_pos c]at h;omega
 .refine⟨by omega,by omega,by omega,?_⟩;exact Classical.byContradiction fun hc=>c (.inr (.inr (.inr hc)))
theorem Gm(W:Int)(l:List Nat)(h:cd W l≠0):cd W l=2:=by
 unfold cd at *;split at h
 .rename_i c;rw[if_pos c]
 .exact absurd rfl h
theorem BJ(W n:Int)(h0:1<=W):n<=1048576/W↔n*W<=1048576:=Int.le_ediv_iff_mul_le (by omega)
theorem BL(W:Int)(h0:1<=W):0<=1048576/W/\1048576/W<=1048576:=⟨Int.ediv_nonneg (by decide) (by omega),Int.ediv_le_self _ (by decide)⟩
theorem EU(W:Int)(al:Option Addr)(l:List Nat)(cap:Nat)(w:World)(hx:Wd w al l)(hf:aA l)(hE:cd W l=0):
  Qx 179 #[.int .i64 W,.slice al l.length cap] w .nilIface:=by
 obtain⟨a1,a2,a3,a4⟩:=oV W l hE;have q1:(l.length:Int)<=1048576/W:=(BJ W _ a1).2 a3;obtain⟨q2,q3⟩:=BL W a1;have hll:l.length<=1048576:=by omega
 have HA:Hid (∀j,j<l.length->bI (gt l j)<=W):=a4;clear hE a3 a4;go_enter func179,ntmps179;go_wp2_with (go_at_call 201;refine(kV _ ?_ ?_ _).mono ?_;exact a1;exact a2;rintro e w' ⟨rfl,rfl⟩)
 go_loop [23] (fun i=>∃k:Nat,k<=l.length/\i=.int .i64 k) (fun i=>l.length-(intOf i).toNat)
 case atStart=>exact⟨0,by omega,rfl⟩
 case round=>
  obtain⟨k,hk,rfl⟩:=hrel;by_cases hlt:k<l.length
  .obtain⟨b,off,rfl,hb,hc⟩:=hx (by omega);have e1:=hc k hlt;have hlt3:(k:Int)<(l.length:Int):=by omega
   have F1:Hid ((gt l k:Int)<18446744073709551616):=by unfold Hid;have:=hf k;omega
   clear hc;go_wp2_with (go_at_call 202;refine(D9 _ _ ?_ ?_ ?_ _).mono ?_;(exact Int.natCast_nonneg _);exact F1.out;(exact HA.out k hlt);rintro e w' ⟨rfl,rfl⟩);go_round
   case rel=>exact⟨k+1,by omega,by go_num⟩
   case measure=>simp only[intOf];omega
  .go_wp2;go_ret;exact⟨rfl,rfl⟩
theorem qF(W:Nat)(al:Option Addr)(l:List Nat)(cap k:Nat)(w:World)(hx:Wd w al l)(hf:aA l)(hE:cd (W:Int) l=0)(hk:k=(l.length*W+63)/64):
  Calls prog 144 #[.int .i64 W,.slice al l.length cap] w fun e w'=>∃g,e=.returned (.tuple #[.agg #[.int .i64 l.length,.int .i64 W,.int .i64 ((l.length:Int)*W),.slice (some ⟨g,0,none⟩) k k],.int .i64 0])/\w.heap.size<=g/\Own w' g (mkS l W l.length)/\Below w.heap.size w w':=by
 obtain⟨a1,a2,a3,a4⟩:=oV W l hE;have K:∀o,Wd (w.alloc o) al l:=fun o=>hx.keep (below_alloc w o)
 have hm:l.length*W<=1048576:=by
  have:((l.length*W:Nat):Int)<=1048576:=by rw[Int.natCast_mul];exact a3
  omega
 have hll:l.length<=1048576:=Nat.le_trans (Nat.le_mul_of_pos_right _ (by omega)) hm;have hmi:(0:Int)<=(l.length:Int)*(W:Int):=Int.mul_nonneg (by omega) (by omega)
 have HK:Hid (k=(l.length*W+63)/64):=hk;have HK1:Hid (((l.length:Int)*W+63)/64=(k:Int)):=by unfold Hid;rw[<-Int.natCast_mul];omega
 have HE:Hid (cd (W:Int) l=0):=hE;have HA:Hid (∀j,j<l.length->gt l j<2^W):=fun j hj=>(qY _ _).1 (a4 j hj);clear hk hE a4;go_enter func144,ntmps144;go_wp2_with fail
 refine(EU _ _ _ _ _ (K _) hf HE.out).mono ?_;rintro e w' ⟨rfl,hw'⟩;subst hw';go_wp2_with fail;refine(mL _ k _ hmi a3 HK1.out).mono ?_;rintro e w1 ⟨g,rfl,hg1,hg2,hO,hb⟩
 have KF:w1.frozen? ⟨w.heap.size,0,none⟩=false/\w1.frozen? ⟨w.heap.size,1,none⟩=false/\w1.frozen? ⟨w.heap.size,2,none⟩=false/\w1.frozen? ⟨w.heap.size,3,none⟩=false:=
  ⟨(hb.frozen (p:=⟨w.heap.size,0,none⟩) (by simp)).trans (by simp),(hb.frozen (p:=⟨w.heap.size,1,none⟩) (by simp)).trans (by simp),(hb.frozen (p:=⟨w.heap.size,2,none⟩) (by simp)).trans (by simp),(hb.frozen (p:=⟨w.heap.size,3,none⟩) (by simp)).trans (by simp)⟩
 have KK:=cP.new hb;have hg0:w.heap.size+1<=g:=by simpa using hg1
 clear hb hg1 K;obtain⟨⟨hz,k0,k1,k2,k3⟩,hw⟩:=KK;obtain⟨f0,f1,f2,f3⟩:=KF;go_wp2
 go_loopw [33] (fun i wr=>∃q:Nat,q<=l.length/\i=.int .i64 q/\Own wr g (mkS l W q)/\(wr.cell? ⟨w1.heap.size,0,none⟩=some (.int .i64 ((l.length:Int)*W))/\wr.cell? ⟨w1.heap.size,1,none⟩=some (.slice (some ⟨g,0,none⟩) k k))/\(wr.cell? ⟨w.heap.size,0,none⟩=some (.int .i64 0)/\wr.cell? ⟨w.heap.size,1,none⟩=some (.int .i64 0)/\wr.cell? ⟨w.heap.size,2,none⟩=some (.int .i64 0)/\wr.cell? ⟨w.heap.size,3,none⟩=some (.slice none 0 0))/\(wr.frozen? ⟨w.heap.size,0,none⟩=false/\wr.frozen? ⟨w.heap.size,1,none⟩=false/\wr.frozen? ⟨w.heap.size,2,none⟩=false/\wr.frozen? ⟨w.heap.size,3,none⟩=false)/\Below w.heap.size w wr) (fun i _=>l.length-(intOf i).toNat)
 case atStart=>
  have hb:=below_alloc w1 (.cells #[.int .i64 ((l.length:Int)*W),.slice (some ⟨g,0,none⟩) k k] 53)
  refine⟨0,Nat.zero_le _,rfl,?_,⟨by simp,by simp⟩,⟨(hb.cell (p:=⟨w.heap.size,0,none⟩) hz).trans k0,(hb.cell (p:=⟨w.heap.size,1,none⟩) hz).trans k1,(hb.cell (p:=⟨w.heap.size,2,none⟩) hz).trans k2,(hb.cell (p:=⟨w.heap.size,3,none⟩) hz).trans k3⟩,⟨(hb.frozen (p:=⟨w.heap.size,0,none⟩) hz).trans f0,(hb.frozen (p:=⟨w.heap.size,1,none⟩) hz).trans f1,(hb.frozen (p:=⟨w.heap.size,2,none⟩) hz).trans f2,(hb.frozen (p:=⟨w.heap.size,3,none⟩) hz).trans f3⟩,hw.trans (hb.mono (by omega))⟩
  rw[<-Er,<-ld (l.length*W) k HK.out];exact hO.keep hb
 case round=>
  obtain⟨q,hq,rfl,hOr,⟨r0,r1⟩,⟨s0,s1,s2,s3⟩,⟨t0,t1,t2,t3⟩,hwr⟩:=hrel;by_cases hlt:q<l.length
  .obtain⟨b,off,rfl,hb,hc⟩:=hx (by omega);have e1:=(hwr.cell (p:=⟨b,off+q,none⟩) hb).trans (hc q hlt);have hlt3:(q:Int)<(l.length:Int):=by omega
   have hn:=lF l.length W q hlt;have hqW:q*W<=1048576:=by omega
   have hqi:(0:Int)<=(q:Int)*(W:Int):=Int.mul_nonneg (by omega) (by omega);have hqi2:(q:Int)*(W:Int)<=1048576:=by rw[<-Int.natCast_mul];omega
   have FS:Hid (gR (mkS l W q) (q*W) W (gt l q)=mkS l W (q+1)):=Es l W q (by omega) (by omega) hlt (HA.out q hlt) (hf q)
   have HLN:Hid ((mkS l W q).length=k):=by unfold Hid;rw[jl];exact HK.out.symm
   have HP:Hid (q*W+W<=64*(mkS l W q).length):=by unfold Hid;rw[jl];omega
   have HC:Hid ((q:Int)*(W:Int)=((q*W:Nat):Int)):=(Int.natCast_mul q W).symm;clear hc hn;go_wp2_with fail;rw[HC.out]
   refine(FB (mkS l W q) k g k (q*W) W (gt l q) _ HLN.out hOr (nh _ _ _) (by omega) (by omega) (hf q) HP.out hqW).mono ?_;rintro e w4 ⟨rfl,hO4,hT⟩;rw[FS.out]at hO4
   have u0:=(hT.cell (p:=⟨w1.heap.size,0,none⟩) (show w1.heap.size≠g by omega)).trans r0;have u1:=(hT.cell (p:=⟨w1.heap.size,1,none⟩) (show w1.heap.size≠g by omega)).trans r1
   have x0:=(hT.cell (p:=⟨w.heap.size,0,none⟩) (show w.heap.size≠g by omega)).trans s0;have x1:=(hT.cell (p:=⟨w.heap.size,1,none⟩) (show w.heap.size≠g by omega)).trans s1
   have x2:=(hT.cell (p:=⟨w.heap.size,2,none⟩) (show w.heap.size≠g by omega)).trans s2;have x3:=(hT.cell (p:=⟨w.heap.size,3,none⟩) (show w.heap.size≠g by omega)).trans s3
   have y0:=(hT.frozen (p:=⟨w.heap.size,0,none⟩) (show w.heap.size≠g by omega)).trans t0;have y1:=(hT.frozen (p:=⟨w.heap.size,1,none⟩) (show w.heap.size≠g by omega)).trans t1
   have y2:=(hT.frozen (p:=⟨w.heap.size,2,none⟩) (show w.heap.size≠g by omega)).trans t2;have y3:=(hT.frozen (p:=⟨w.heap.size,3,none⟩) (show w.heap.size≠g by omega)).trans t3
   have hw4:=hwr.trans (hT.below (B:=w.heap.size) (by omega));clear hT r0 r1 s0 s1 s2 s3 t0 t1 t2 t3 hwr hOr e1;go_wp2
   exact⟨⟨q+1,by omega,by go_num,hO4,⟨u0,u1⟩,⟨x0,x1,x2,x3⟩,⟨y0,y1,y2,y3⟩,hw4⟩,by simp only[intOf];omega⟩
  .have hq2:q=l.length:=by omega
   rw[hq2]at hOr;clear hq2;go_wp2
   refine bodyPost_ret (v:=.tuple #[.agg #[.int .i64 l.length,.int .i64 W,.int .i64 ((l.length:Int)*W),.slice (some ⟨g,0,none⟩) k k],.int .i64 0]) (by simp[results,Tryz.results144,go_sem,s0,s1,s2,s3]) rfl ⟨g,rfl,by omega,?_,?_⟩
   .exact(((hOr.set_other (by simp;omega) _).set_other (by simp;omega) _).set_other (by simp;omega) _).set_other (by simp;omega) _
   .exact(((hwr.setCell (by simp) _).setCell (by simp) _).setCell (by simp) _).setCell (by simp) _
def nG(w w':World)(ao:Option Addr)(ys:List Nat)(cap:Nat):Prop:=Wd w' ao ys/\aA ys/\ys.length<=cap/\(∀a,ao=some a->w.heap.size<=a.block)/\Below w.heap.size w w'
theorem info4:(prog.info? 4).map (fun i=>(i.zero,i.size,i.bytes))=some (some (.bool false),1,1):=by kernel_rfl
def bv(l:List Bool):List Value:=l.map fun b=>Value.bool b
def mb(l:List Nat)(W q:Nat):List Bool:=(List.range q).map fun j=>(gt l (j/W)).testBit (j%W)
theorem Fl(l:List Nat)(W q:Nat):(mb l W q).length=q:=by simp[mb]
theorem Jf(l:List Nat)(W q i:Nat)(h:i<q):bt (mb l W q) i=(gt l (i/W)).testBit (i%W):=by
 unfold bt mb;rw[List.getD_eq_getElem?_getD,List.getElem?_map,List.getElem?_range h];rfl
theorem EH(l:List Nat)(W i k:Nat)(hk:k<W):bv (mb l W (i*W+k))++[.bool ((gt l i).testBit k)]=bv (mb l W (i*W+k+1)):=by
 unfold bv mb;rw[List.range_succ,List.map_append,List.map_append];have e1:(i*W+k)/W=i:=by rw[Nat.mul_comm,Nat.mul_add_div (by omega),Nat.div_eq_of_lt hk];omega
 have e2:(i*W+k)%W=k:=by rw[Nat.mul_comm,Nat.mul_add_mod,Nat.mod_eq_of_lt hk]
 simp only[List.map_cons,List.map_nil,e1,e2]
theorem EI(l:List Nat)(W:Nat):cu (mb l W (l.length*W)) (mb l W (l.length*W)).length=mkS l W l.length:=by
 unfold cu mkS;rw[Fl];refine da _ _ _ fun i hi=>?_;rw[Jf _ _ _ _ hi]
theorem zP(y q:Nat):(((y:Int)/2^q).tmod 2==1)=y.testBit q:=by
 rw[jZ _ _ (Int.natCast_nonneg _),kP,Int.toNat_natCast,Bool.eq_iff_iff,beq_iff_eq,decide_eq_true_eq];omega
theorem Jm{w:World}{base n:Nat}{v:Value}{l:List Bool}(h:w.ownsRow base 4 1 v n (bv l)):∃ao cap,v=.slice ao n cap/\Bl w ao l/\l.length=n:=by
 have hn:l.length=n:=by have:=h.1;simpa [bv]using this
 obtain⟨h1,⟨rfl,rfl⟩ | ⟨g,cap,cur,rfl,e2,hh,r,_,hs,ht⟩⟩:=h
 .exact⟨none,0,rfl,fun h=>absurd h (by omega),hn⟩
 .refine⟨some ⟨g,0,none⟩,cap,rfl,fun _=>⟨g,0,rfl,(Array.getElem?_eq_some_iff.1 hh).1,fun i hi=>?_⟩,hn⟩;unfold World.cell?;rw[show w.heap[({ block:=g,off:=0+i,spot:=none }:Addr).block]?=_ from hh]
  have h3:(cur.toList.take (n*1))[i]?=some (.bool (bt l i)):=by
   rw[ht,bv,List.getElem?_map];unfold bt;rw[List.getD_eq_getElem?_getD,List.getElem?_eq_getElem hi];rfl
  rw[List.getElem?_take_of_lt (by omega)]at h3;simpa using h3
theorem A9(ao:Option Addr)(l:List Bool)(n cap k:Nat)(w:World)(hn:l.length=n)(hx:Bl w ao l)(hl:n<=1048576)(hk:k=(n+63)/64):
  Calls prog 33 #[.slice ao n cap] w fun e w'=>∃g,e=.returned (.tuple #[.agg #[.int .i64 n,.slice (some ⟨g,0,none⟩) k k],.int .i64 0])/\w.heap.size<=g/\Own w' g (cu l l.length)/\Below w.heap.size w w':=by
 subst hn;exact lh ao l cap k w hx hl hk
structure RB (w wr:World):Prop where
 c0:wr.cell? ⟨w.heap.size,0,none⟩=some (.int .i64 0)
 c1:wr.cell? ⟨w.heap.size,1,none⟩=some (.int .i64 0)
 c2:wr.cell? ⟨w.heap.size,2,none⟩=some (.int .i64 0)
 c3:wr.cell? ⟨w.heap.size,3,none⟩=some (.slice none 0 0)
 f0:wr.frozen? ⟨w.heap.size,0,none⟩=false
 f1:wr.frozen? ⟨w.heap.size,1,none⟩=false
 f2:wr.frozen? ⟨w.heap.size,2,none⟩=false
 f3:wr.frozen? ⟨w.heap.size,3,none⟩=false
 lt:w.heap.size<wr.heap.size
 bel:Below w.heap.size w wr
theorem RB.new(w:World):RB w (w.alloc (.cells #[.int .i64 0,.int .i64 0,.int .i64 0,.slice none 0 0] 57)):=⟨by simp,by simp,by simp,by simp,by simp,by simp,by simp,by simp,by simp,below_alloc _ _⟩
theorem RB.keep{w w1 w2:World}(h:RB w w1)(hb:Below (w.heap.size+1) w1 w2):RB w w2:=
  ⟨(hb.cell (p:=⟨w.heap.size,0,none⟩) (by simp)).trans h.c0,(hb.cell (p:=⟨w.heap.size,1,none⟩) (by simp)).trans h.c1,(hb.cell (p:=⟨w.heap.size,2,none⟩) (by simp)).trans h.c2,(hb.cell (p:=⟨w.heap.size,3,none⟩) (by simp)).trans h.c3,
   (hb.frozen (p:=⟨w.heap.size,0,none⟩) (by simp)).trans h.f0,(hb.frozen (p:=⟨w.heap.size,1,none⟩) (by simp)).trans h.f1,(hb.frozen (p:=⟨w.heap.size,2,none⟩) (by simp)).trans h.f2,(hb.frozen (p:=⟨w.heap.size,3,none⟩) (by simp)).trans h.f3,
   Nat.lt_of_lt_of_le h.lt hb.size,h.bel.trans (hb.mono (by omega))⟩
theorem RB.put{w w1:World}(h:RB w w1)(p q r s:Value):cP ((((w1.setCell ⟨w.heap.size,0,none⟩ p).setCell ⟨w.heap.size,1,none⟩ q).setCell ⟨w.heap.size,2,none⟩ r).setCell ⟨w.heap.size,3,none⟩ s) w.heap.size p q r s:=
 ⟨by simp only[fA];exact h.lt,by simp[go_sem,h.c0],by simp[go_sem,h.c1],by simp[go_sem,h.c2],by simp[go_sem,h.c3]⟩
theorem A3(W:Nat)(al:Option Addr)(l:List Nat)(cap k:Nat)(w:World)(hx:Wd w al l)(hf:aA l)(a1:1<=W)(a2:W<=64)(hm:l.length*W<=1048576)(hk:k=(l.length*W+63)/64):
    Calls prog 110 #[.int .i64 W,.slice al l.length cap] w fun e w'=>
      (cd (W:Int) l=0/\∃g,e=.returned (.tuple #[.agg #[.int .i64 l.length,.int .i64 W,.int .i64 ((l.length:Int)*W),.slice (some ⟨g,0,none⟩) k k],.int .i64 0])/\w.heap.size<=g/\Own w' g (mkS l W l.length)/\Below w.heap.size w w')\/
      (cd (W:Int) l≠0/\e=.returned (.tuple #[.agg #[.int .i64 0,.int .i64 0,.int .i64 0,.slice none 0 0],.int .i64 2])/\Below w.heap.size w w'):=by
  have hll:l.length<=1048576:=Nat.le_trans (Nat.le_mul_of_pos_right _ (by omega)) hm;have hmi:(0:Int)<=(l.length:Int)*(W:Int):=Int.mul_nonneg (by omega) (by omega)
  have hmi2:(l.length:Int)*(W:Int)<=1048576:=by rw[<-Int.natCast_mul];omega
  have HK:Hid (k=(l.length*W+63)/64):=hk;have d1:decide ((W:Int)<1)=false:=by simp;omega
  have d2:decide (64<(W:Int))=false:=by simp;omega
  have d3:decide ((1048576:Int)<(l.length:Int))=false:=by simp;omega
  have HI:Hid ((∀j,j<l.length->bI (gt l j)<=W)->cd (W:Int) l=0):=fun h=>by
    unfold cd;rw[if_neg];rintro(h1 | h1 | h1 | h1)<;>first | omega | exact h1 h
  have HJ:Hid (∀j,j<l.length->(W:Int)<bI (gt l j)->cd (W:Int) l≠0):=fun j hj h e=>by
    have:=(oV _ l e).2.2.2 j hj;omega
  obtain⟨i0,hi,hz0,hz1,hz2⟩:=info_parts info4;clear hk;go_enter func110,ntmps110;go_wp2
  go_loopw [6,7] (fun v i wr=>∃q:Nat,q<=l.length/\i=.int .i64 q/\wr.ownsRow (w.heap.size+1) 4 1 v (q*W) (bv (mb l W (q*W)))/\Hid (∀j,j<q->bI (gt l j)<=W)/\RB w wr) (fun _ i _=>l.length-(intOf i).toNat)
  case atStart=>exact⟨0,Nat.zero_le _,rfl,by rw[Nat.zero_mul];exact World.ownsRow_nil _ _ _ _,fun j hj=>absurd hj (by omega),RB.new w⟩
  case round=>
    obtain⟨q,hq,rfl,hown,HA,rb⟩:=hrel;by_cases hlt:q<l.length
    . obtain⟨b,off,rfl,hb,hc⟩:=hx (by omega)
      have e1:=(rb.bel.cell (p:=⟨b,off+q,none⟩) hb).trans (hc q hlt);have hlt3:(q:Int)<(l.length:Int):=by omega
      have F1:Hid ((gt l q:Int)<18446744073709551616):=by unfold Hid;have:=hf q;omega
      by_cases hfit:bI (gt l q)<=(W:Int)
      . have dF:decide (bI (gt l q)<=(W:Int))=true:=by simpa using hfit
        have HF:Hid (bI (gt l q)<=(W:Int)):=hfit;clear hfit;have hn:=lF l.length W q hlt;have hqm:q*W+W<=1048576:=by omega
        clear hc;go_wp2_with (go_at_call 163;refine(tN _ _ ?_ ?_ _).mono ?_;(exact Int.natCast_nonneg _);exact F1.out;rintro e w' ⟨rfl,rfl⟩)
        go_loopw [6,8] (fun v j wr=>∃k:Nat,k<=W/\j=.int .i64 k/\wr.ownsRow (w.heap.size+1) 4 1 v (q*W+k) (bv (mb l W (q*W+k)))/\wr.cell? ⟨b,off+q,none⟩=some (.int .u64 (gt l q))/\RB w wr) (fun _ j _=>W-(intOf j).toNat)
        case atStart=>exact⟨0,Nat.zero_le _,rfl,hown,e1,rb⟩
        case round=>
          clear hown e1 rb;obtain⟨k,hk,rfl,hown,e1,rb⟩:=hrel;by_cases hk2:k<W
          . have hk3:(k:Int)<(W:Int):=by omega
            have hk4:k<64:=by omega
            have rlt:=rb.lt;have hbw:b<w.heap.size:=hb;have BT:Hid ((((gt l q:Int)/2^k).tmod 2==1)=(gt l q).testBit k):=zP _ _
            go_wp2_with (at_builtin;refine wpList_append_own _ rfl _ _ 73 rfl (w.heap.size+1) 4 i0 (.bool false) 1 1 underlying73 hi hz0 hz1 hz2 rfl (by decide) _ _ _ rfl (hown.alloc _) ⟨wr.heap.size,0,none⟩ 1 1 [.bool (((gt l q:Int)/2^k).tmod 2==1)] rfl rfl ?c1 ?c2 ?c3 ?c4 ?c5 ?_)
            case c1=>
              intro j u hj;match j,hj with
              | 0,hj=>simp at hj;subst hj;simp[Addr.add]
            case c2=>intro u hu;simp at hu;subst hu;rfl
            case c3=>unfold maxLen;omega
            case c4=>omega
            case c5=>simp;omega
            intro v' w3 hown3 hgrow _;have hrow:∀k,u6.ownBlock=some k->w.heap.size+1<=k:=fun k hk=>(hown.lt k hk).1
            have hb3:Below (w.heap.size+1) (wr.alloc (.cells #[.bool (((gt l q:Int)/2^k).tmod 2==1)] 4)) w3:=(Below.refl _ _).grown hgrow (by simp;omega) hrow
            have hb4:Below (w.heap.size+1) wr w3:=Below.trans ((Below.refl _ _).alloc (by omega) _) hb3;have e3:=(hb4.cell (p:=⟨b,off+q,none⟩) (show b<w.heap.size+1 by omega)).trans e1
            have rb3:=rb.keep hb4;rw[BT.out,EH l W q k hk2]at hown3;have HO:Hid (w3.ownsRow (w.heap.size+1) 4 1 v' (q*W+(k+1)) (bv (mb l W (q*W+(k+1))))):=hown3
            clear hgrow hb3 hb4 hown3 hrow e1 rb hown BT;go_wp2
            first
              | exact⟨⟨k+1,by omega,by go_num,HO.out,e3,rb3⟩,by simp only[intOf];omega⟩
              | (go_roundw
                 case rel=>exact⟨k+1,by omega,by go_num,HO.out,e3,rb3⟩
                 case measure=>simp only[intOf];omega)
          . have hkW:k=W:=by omega
            have HO:Hid (wr.ownsRow (w.heap.size+1) 4 1 u6 ((q+1)*W) (bv (mb l W ((q+1)*W)))):=by
              rw[hkW]at hown;rw[Nat.add_mul,Nat.one_mul];exact hown
            have HA2:Hid (∀j,j<q+1->bI (gt l j)<=W):=fun j hj=>by
              by_cases e:j=q
              . subst e;exact HF.out
              . exact HA.out j (by omega)
            clear hkW hown e1;go_wp2
            first
              | exact⟨⟨q+1,by omega,by go_num,HO.out,HA2,rb⟩,by simp only[intOf];omega⟩
              | (go_roundw
                 case rel=>exact⟨q+1,by omega,by go_num,HO.out,HA2,rb⟩
                 case measure=>simp only[intOf];omega)
      . have dF:decide (bI (gt l q)<=(W:Int))=false:=by simpa using hfit
        have HF:Hid (cd (W:Int) l≠0):=HJ.out q hlt (by omega);clear hfit;obtain⟨k0,k1,k2,k3,f0,f1,f2,f3,rl,rbel⟩:=rb
        go_wp2_with (go_at_call 163;refine(tN _ _ ?_ ?_ _).mono ?_;(exact Int.natCast_nonneg _);exact F1.out;rintro e w' ⟨rfl,rfl⟩)
        refine bodyPost_ret (v:=.tuple #[.agg #[.int .i64 0,.int .i64 0,.int .i64 0,.slice none 0 0],.int .i64 2]) (by simp[results,Tryz.results110,go_sem,k0,k1,k2,k3]) rfl (.inr ⟨HF.out,rfl,?_⟩)
        exact(((rbel.setCell (by simp) _).setCell (by simp) _).setCell (by simp) _).setCell (by simp) _
    . have hq2:q=l.length:=by omega
      subst hq2;have HE:Hid (cd (W:Int) l=0):=HI.out HA.out;obtain⟨bo,dap,rfl,hB,hBn⟩:=Jm hown;clear hown HI HJ HA hlt;have rlt:=rb.lt;go_wp2_with fail
      refine(A9 _ _ _ _ k _ hBn hB hm HK.out).mono ?_;rintro e w1 ⟨g,rfl,hg1,hO,hb⟩;rw[EI]at hO;replace rb:=rb.keep (hb.mono (by omega));have hg0:w.heap.size<g:=by omega
      have HO:Hid (Own w1 g (mkS l W l.length)):=hO;have hgl:=hO.lt;clear hb hB hBn hO
      have PB:=(rb.put (.int .i64 l.length) (.int .i64 W) (.int .i64 ((l.length:Int)*W)) (.slice (some ⟨g,0,none⟩) k k)).keep (below_alloc _ (.cells #[.int .i64 ((l.length:Int)*W),.slice (some ⟨g,0,none⟩) k k] 53))
      have HPB:Hid (cP _ _ _ _ _ _):=PB;clear PB;obtain⟨k0,k1,k2,k3,f0,f1,f2,f3,rl,rbel⟩:=rb;go_wp2;obtain⟨_,p0,p1,p2,p3⟩:=HPB.out
      refine bodyPost_ret (v:=.tuple #[.agg #[.int .i64 l.length,.int .i64 W,.int .i64 ((l.length:Int)*W),.slice (some ⟨g,0,none⟩) k k],.int .i64 0]) (by simp[results,Tryz.results110,go_sem,p0,p1,p2,p3]) rfl (.inl ⟨HE.out,g,rfl,by omega,?_,?_⟩)
      . exact((((HO.out.set_other (by simp;omega) _).set_other (by simp;omega) _).set_other (by simp;omega) _).set_other (by simp;omega) _).keep (below_alloc _ _)
      . exact((((rbel.setCell (by simp) _).setCell (by simp) _).setCell (by simp) _).setCell (by simp) _).alloc (by simp only[fA];omega) _
def iX(n:Nat)(f:Nat->Nat)(k:Nat):List Nat:=(List.range n).map fun i=>if i<k then f i else 0
theorem lK(n:Nat)(f:Nat->Nat)(k:Nat):(iX n f k).length=n:=by simp[iX]
theorem m8(n:Nat)(f:Nat->Nat)(k j:Nat):gt (iX n f k) j=if j<n/\j<k then f j else 0:=by
 unfold iX gt;rw[List.getD_eq_getElem?_getD,List.getElem?_map];by_cases h:j<n
 .rw[List.getElem?_range h];by_cases c:j<k<;>simp[h,c]
 .rw[List.getElem?_eq_none (by simp;omega)];simp[h]
theorem E8(n:Nat)(f:Nat->Nat):List.replicate n 0=iX n f 0:=by
 refine list_ext _ _ (by rw[lK];simp) fun i hi=>?_;rw[m8];simp only[List.length_replicate]at hi;unfold gt;rw[List.getD_eq_getElem?_getD,List.getElem?_replicate];simp[hi]
theorem E9(n:Nat)(f:Nat->Nat)(k:Nat)(h:k<n):(iX n f k).set k (f k)=iX n f (k+1):=by
 refine list_ext _ _ (by rw[List.length_set,lK,lK]) fun i hi=>?_;rw[gt_set _ _ _ _ (by rw[lK];exact h),m8,m8];rw[List.length_set,lK]at hi;by_cases c:k=i
 .subst c;simp[h]
 .rw[if_neg c];by_cases d:i<k
  .simp[hi,d,show i<k+1 by omega]
  .simp[d,show ¬i<k+1 by omega]
theorem qJ(n:Nat)(f:Nat->Nat):iX n f n=(List.range n).map f:=by
 unfold iX;refine List.map_congr_left fun i hi=>?_;rw[if_pos (List.mem_range.1 hi)]
theorem DO(n:Nat)(h:n<=64)(xs:List Nat)(i:Nat):numAt n xs i<18446744073709551616:=by
 have:=fg n (fun k=>bitAt xs (i*n+k));have h2:=Nat.pow_le_pow_right (n:=2) (j:=64) (by decide) h;rw[show(2:Nat)^64=18446744073709551616 from rfl]at h2;unfold numAt;omega
theorem Hh(n:Nat)(f:Nat->Nat)(h:∀i,f i<18446744073709551616):aA ((List.range n).map f):=by
 rw[<-qJ];intro i;rw[m8];split
 .exact h i
 .decide
theorem gt_map(n:Nat)(f:Nat->Nat)(j:Nat)(h:j<n):gt ((List.range n).map f) j=f j:=by
 rw[<-qJ,m8,if_pos ⟨h,h⟩]
theorem A8(W:Int)(al:Option Addr)(n cap:Nat)(w:World)(hn:n<=1048576)(h:W<1\/64<W\/1048576<(n:Int)*W):
  Qq 110 #[.int .i64 W,.slice al n cap] w (.tuple #[.agg #[.int .i64 0,.int .i64 0,.int .i64 0,.slice none 0 0],.int .i64 2]):=by
 by_cases a1:W<1
 .clear h;go_enter func110,ntmps110;go_wp2
  exact bodyPost_ret (v:=.tuple #[.agg #[.int .i64 0,.int .i64 0,.int .i64 0,.slice none 0 0],.int .i64 2]) (by simp[results,Tryz.results110,go_sem]) rfl ⟨rfl,below_alloc w _⟩
 have d1:decide (W<1)=false:=by simpa using a1
 by_cases a2:64<W
 .clear h;go_enter func110,ntmps110;go_wp2
  exact bodyPost_ret (v:=.tuple #[.agg #[.int .i64 0,.int .i64 0,.int .i64 0,.slice none 0 0],.int .i64 2]) (by simp[results,Tryz.results110,go_sem]) rfl ⟨rfl,below_alloc w _⟩
 have d2:decide (64<W)=false:=by simpa using a2
 have d3:decide ((1048576:Int)<(n:Int))=false:=by simp;omega
 have h3:1048576<(n:Int)*W:=by omega
 have b2:(n:Int)*W<=1048576*64:=Int.mul_le_mul (by omega) (by omega) (by omega) (by omega);clear h;go_enter func110,ntmps110;go_wp2
 exact bodyPost_ret (v:=.tuple #[.agg #[.int .i64 0,.int .i64 0,.int .i64 0,.slice none 0 0],.int .i64 2]) (by simp[results,Tryz.results110,go_sem]) rfl ⟨rfl,below_alloc w _⟩
theorem qd(W:Int)(al:Option Addr)(l:List Nat)(cap:Nat)(w:World)(hx:Wd w al l)(hf:aA l)(hcap:l.length<=1048576):
  Calls prog 110 #[.int .i64 W,.slice al l.length cap] w fun e w'=>∃bo dap,e=.returned (.tuple #[.agg #[.int .i64 (iD W l),.int .i64 (iC W l),.int .i64 (iE W l),.slice bo (gu W l).length dap],.int .i64 (cd W l)])/\nG w w' bo (gu W l) dap:=by
 have bad:cd W l≠0->∀w':World,Below w.heap.size w w'->∃bo dap,Ending.returned (.tuple #[.agg #[.int .i64 0,.int .i64 0,.int .i64 0,.slice none 0 0],.int .i64 2])=.returned (.tuple #[.agg #[.int .i64 (iD W l),.int .i64 (iC W l),.int .i64 (iE W l),.slice bo (gu W l).length dap],.int .i64 (cd W l)])/\nG w w' bo (gu W l) dap:=by
  intro hE w' hb;have h1:gu W l=[]:=by unfold gu;rw[if_neg hE]
  have h2:iD W l=0:=by unfold iD;rw[if_neg hE]
  have h3:iC W l=0:=by unfold iC;rw[if_neg hE]
  have h4:iE W l=0:=by unfold iE;rw[if_neg hE]
  rw[h1,h2,h3,h4,Gm W l hE];exact⟨none,0,rfl,fun h=>absurd h (by simp),fun i=>by unfold gt;simp,by simp,fun a ha=>(by cases ha),hb⟩
 by_cases h:W<1\/64<W\/1048576<(l.length:Int)*W
 .have hE:cd W l≠0:=fun e=>by have:=oV W l e;omega
  refine mr (A8 W al l.length cap w hcap h) fun w' hb=>?_;exact bad hE w' hb
 .obtain⟨m,rfl⟩:=Int.eq_ofNat_of_zero_le (show 0<=W by omega)
  have hm:l.length*m<=1048576:=by
   have:((l.length*m:Nat):Int)<=1048576:=by rw[Int.natCast_mul];omega
   omega
  refine(A3 m al l cap _ w hx hf (by omega) (by omega) hm rfl).mono ?_;rintro e w' (⟨hE,g,rfl,hg0,hO,hb⟩ | ⟨hE,rfl,hb⟩)
  .have h1:gu (m:Int) l=mkS l m l.length:=by unfold gu;rw[if_pos hE,Int.toNat_natCast]
   have h2:iD (m:Int) l=l.length:=by unfold iD;rw[if_pos hE]
   have h3:iC (m:Int) l=m:=by unfold iC;rw[if_pos hE]
   have h4:iE (m:Int) l=(l.length:Int)*m:=by unfold iE;rw[if_pos hE]
   rw[h1,h2,h3,h4,hE];exact⟨some ⟨g,0,none⟩,_,by rw[jl],hO.wd,nh _ _ _,by rw[jl];exact Nat.le_refl _,fun a ha=>by cases ha;exact hg0,hb⟩
  .exact bad hE w' hb
/-! The document's List: what is appended lies in memory of the call's own,with room behind it. -/
theorem yd(m:Nat)(xs:List Nat)(q:Nat):wv ((List.range q).map (numAt m xs))++[.int .u64 (numAt m xs q)]=wv ((List.range (q+1)).map (numAt m xs)):=by
 unfold wv;rw[List.range_succ,List.map_append,List.map_append];rfl
theorem owns_below{w w':World}{base e n:Nat}{v:Value}{vs:List Value}(h:w.ownsRow base e 1 v n vs)(hb:Below w.heap.size w w'):w'.ownsRow base e 1 v n vs:=by
 obtain⟨h1,h2 | ⟨g,cap,cur,e1,e2,hh,r⟩⟩:=h
 .exact⟨h1,.inl h2⟩
 .exact⟨h1,.inr ⟨g,cap,cur,e1,e2,(hb.block g ((Array.getElem?_eq_some_iff.1 hh).1)).trans hh,r⟩⟩
theorem tM(M:Int)(n m:Nat)(ao:Option Addr)(xs:List Nat)(cap:Nat)(w:World)(hx:Wd w ao xs)(hf:aA xs)(hk:aQ (n:Int) (m:Int) M xs=true):
    Calls prog 207 #[.agg #[.int .i64 n,.int .i64 m,.int .i64 M,.slice ao xs.length cap]] w fun e w'=>∃v,e=.returned v/\w'.ownsRow w.heap.size 126 1 v n (wv ((List.range n).map (numAt m xs)))/\Below w.heap.size w w':=by
  obtain⟨a1,a2,a3,a4,a5,a6,a7,a8⟩:=dZ n m M xs hk;have hn:n<=1048576:=by omega
  have HX:Hid (∀k:Nat,k<n->((igX n m M xs k:Nat):Int)=((numAt m xs k:Nat):Int)):=by
    intro k hlt;unfold igX;rw[if_pos (vY n m M xs k hk (by omega) (by omega)),Int.toNat_natCast,Int.toNat_natCast]
  obtain⟨i0,hi,hz0,hz1,hz2⟩:=info_parts Tryz.info126;clear a3 a4 a5;go_enter func207,ntmps207;go_wp2
  go_loopw [3,4] (fun v i wr=>∃q:Nat,q<=n/\i=.int .i64 q/\wr.ownsRow (w.heap.size+1) 126 1 v q (wv ((List.range q).map (numAt m xs)))/\cP wr w.heap.size (.int .i64 n) (.int .i64 m) (.int .i64 M) (.slice ao xs.length cap)/\wr.cell? ⟨w.heap.size,0,none⟩=some (.int .i64 n)/\Below w.heap.size w wr) (fun _ i _=>n-(intOf i).toNat)
  case atStart=>exact⟨0,Nat.zero_le _,rfl,World.ownsRow_nil _ _ _ _,⟨by simp,by simp,by simp,by simp,by simp⟩,by simp,below_alloc _ _⟩
  case round=>
    obtain⟨q,hq,rfl,hown,B,r0,hwr⟩:=hrel;have hx':=hx.keep hwr;by_cases hlt:q<n
    . have hlt2:(q:Int)<(n:Int):=by omega
      have R:Hid (((igX n m M xs q:Nat):Int)=((numAt m xs q:Nat):Int)):=HX.out q hlt;obtain⟨bl,b0,b1,b2,b3⟩:=B;have hlt5:decide ((q:Int)<(n:Int))=true:=by simpa using hlt2
      go_wp2_with fail;refine mr (jq _ _ _ _ _ _ _ hx' hf) fun w2 hb=>?_;have B:cP w2 w.heap.size _ _ _ _:=cP.keep ⟨bl,b0,b1,b2,b3⟩ hb;have hx2:=hx'.keep hb
      replace hown:=owns_below hown hb;replace hwr:=bg hwr hb;clear hb bl b0 b1 b2 b3 hx' r0;obtain⟨bl,b0,b1,b2,b3⟩:=B;go_wp2_with fail;refine mr (Gf _ _ _ _ _ _ _ _ hx2 hf) fun w3 hb=>?_;have B:cP w3 w.heap.size _ _ _ _:=cP.keep ⟨bl,b0,b1,b2,b3⟩ hb;replace hown:=owns_below hown hb;replace hwr:=bg hwr hb;clear hb bl b0 b1 b2 b3 hx2;have bl:=B.1
      go_wp2_with (at_builtin;refine wpList_append_own _ rfl _ _ 51 rfl (w.heap.size+1) 126 i0 (.int .u64 0) 1 8 underlying51 hi hz0 hz1 hz2 rfl (by decide) _ _ _ rfl (hown.alloc _) ⟨w3.heap.size,0,none⟩ 1 1 [.int .u64 (igX n m M xs q)] rfl rfl ?c1 ?c2 ?c3 ?c4 ?c5 ?_)
      case c1=>
        intro j u hj;match j,hj with
        | 0,hj=>simp at hj;subst hj;simp[Addr.add]
      case c2=>intro u hu;simp at hu;subst hu;rfl
      case c3=>unfold maxLen;omega
      case c4=>omega
      case c5=>simp;omega
      intro v' w4 hown4 hgrow _;have hrow:∀k,u3.ownBlock=some k->w.heap.size+1<=k:=fun k hk=>(hown.lt k hk).1
      have hb3:Below (w.heap.size+1) (w3.alloc (.cells #[.int .u64 (igX n m M xs q)] 126)) w4:=(Below.refl _ _).grown hgrow (by simp;omega) hrow
      have hb4:Below (w.heap.size+1) w3 w4:=Below.trans ((Below.refl _ _).alloc (by omega) _) hb3
      have B4:cP w4 w.heap.size (.int .i64 n) (.int .i64 m) (.int .i64 M) (.slice ao xs.length cap):=⟨Nat.lt_of_lt_of_le bl hb4.size,(hb4.cell (p:=⟨w.heap.size,0,none⟩) (by simp)).trans B.2.1,(hb4.cell (p:=⟨w.heap.size,1,none⟩) (by simp)).trans B.2.2.1,(hb4.cell (p:=⟨w.heap.size,2,none⟩) (by simp)).trans B.2.2.2.1,(hb4.cell (p:=⟨w.heap.size,3,none⟩) (by simp)).trans B.2.2.2.2⟩
      have hw4:=hwr.trans (hb4.mono (by omega));rw[R.out,yd]at hown4;have HO:Hid (w4.ownsRow (w.heap.size+1) 126 1 v' (q+1) (wv ((List.range (q+1)).map (numAt m xs)))):=hown4;have s0:=B4.2.1
      clear hgrow hown hb3 hb4 hown4 hrow B bl hwr R;go_wp2
      first
        | exact⟨⟨q+1,by omega,by go_num,HO.out,B4,s0,hw4⟩,by simp only[intOf];omega⟩
        | (go_roundw
           case rel=>exact⟨q+1,by omega,by go_num,HO.out,B4,s0,hw4⟩
           case measure=>simp only[intOf];omega)
    . have hqm:q=n:=by omega
      have hlt5:decide ((q:Int)<(n:Int))=false:=by simp;omega
      have HO:Hid (wr.ownsRow w.heap.size 126 1 u3 n (wv ((List.range n).map (numAt m xs)))):=by
        rw[hqm]at hown;obtain⟨h1,h2 | ⟨g,c,cur,e1,e2,r⟩⟩:=hown
        . exact⟨h1,.inl h2⟩
        . exact⟨h1,.inr ⟨g,c,cur,e1,by omega,r⟩⟩
      clear hqm hown;go_wp2;go_ret;exact⟨u3,rfl,HO.out,hwr⟩
end Go.Proofs.YtleegaihbgbcjabGreatDoor
