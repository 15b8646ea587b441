import Derived.Test.YtleegaihbgbcjabGreatDoorM02
import Derived.LaidEql
import Derived.Stop.Asserts
import Derived.RowKitTokens
set_option linter.unusedVariables false
set_option linter.unusedSimpArgs false
set_option maxRecDepth 100000
set_option maxHeartbeats 16000000
namespace Go.Proofs.YtleegaihbgbcjabGreatDoor
open Go.RowKit Go.Extern.Stop Go.Stop Go.Extern
def ET(w:World):Prop:=w.cell? ⟨0,0,none⟩=some (.iface 253 (.agg #[.pointer (some ⟨1,213,none⟩)]))
end Go.Proofs.YtleegaihbgbcjabGreatDoor
namespace Go.Proofs.YtleegaihbgbcjabGreatDoor
open Num
namespace Bit
theorem len_fit(x m:Nat):Go.bitLen x≤m↔x<2^m:=by
 constructor
 ·intro h;by_cases hx:x=0
  ·subst hx;exact Nat.two_pow_pos m
  ·refine Nat.lt_of_not_le fun hc=>?_
   have h1:¬x<2^Go.bitLen x:=fun h2=>by
    have:=Nat.pow_le_pow_right (n:=2) (by decide) h;omega
   have key:∀d,x<2^(Go.bitLen x+d)→False:=by
    intro d;induction d with
    | zero=>exact h1
    | succ d ih=>
     intro h2;by_cases hb:x/2^(Go.bitLen x+d)%2=1
     ·have:=len_eq x (Go.bitLen x+d) h2 hb;omega
     ·exact ih (len_down x _ h2 hb)
   refine key x ?_;exact Nat.lt_of_lt_of_le (Nat.lt_two_pow_self (n:=x)) (Nat.pow_le_pow_right (by decide) (by omega))
 ·exact len_le x m
theorem lenI_fit(x m:Nat):lenI (x:Int)≤(m:Int)↔x<2^m:=by
 unfold lenI;rw[Int.toNat_natCast,←len_fit];omega
def ichk(N W M:Int)(xs:List Nat):Bool:=decide (1≤W∧W≤64∧0≤N∧N*W=M)&&chk M xs
theorem ichk_out(N W M:Int)(xs:List Nat)(h:ichk N W M xs=true):1≤W∧W≤64∧0≤N∧N*W=M∧chk M xs=true∧0≤M∧M≤1048576∧N≤M:=by
 unfold ichk at h;rw[Bool.and_eq_true,decide_eq_true_eq]at h;obtain⟨⟨a,b,c,d⟩,e⟩:=h;obtain⟨f,g,_,_⟩:=chk_out M xs e;refine⟨a,b,c,d,e,f,g,?_⟩;have:=Int.mul_le_mul_of_nonneg_left a c;omega
def numAt(W:Nat)(xs:List Nat)(i:Nat):Nat:=numOf W (fun k=>bitAt xs (i*W+k))
def igE(N W M:Int)(xs:List Nat)(i:Int):Int:=if ichk N W M xs=false then 2 else if i<0∨N≤i then 3 else 0
def igX(N W M:Int)(xs:List Nat)(i:Int):Nat:=if igE N W M xs i=0 then numAt W.toNat xs i.toNat else 0
def imE(W:Int)(l:List Nat):Int:=if W<1∨64<W∨1048576<(l.length:Int)*W∨¬(∀j,j<l.length→lenI (gt l j)≤W)then 2 else 0
def mkS(l:List Nat)(W k:Nat):List Nat:=rowOf (l.length*W) (fun j=>decide (j<k*W)&&(gt l (j/W)).testBit (j%W))
theorem igE_zero(N W M:Int)(xs:List Nat)(i:Int)(hE:igE N W M xs i=0):ichk N W M xs=true∧0≤i∧i<N:=by
 unfold igE at hE;cases h:ichk N W M xs with
 | false=>rw[if_pos h]at hE;omega
 | true=>
  rw[if_neg (by simp[h])]at hE;by_cases c:i<0∨N≤i
  ·rw[if_pos c]at hE;omega
  ·exact⟨rfl,by omega,by omega⟩
theorem igE_of(N W M:Int)(xs:List Nat)(i:Int)(hk:ichk N W M xs=true)(h0:0≤i)(h1:i<N):igE N W M xs i=0:=by
 unfold igE;rw[if_neg (by simp[hk]),if_neg (by omega)]
theorem get_place(N W M i:Int)(a1:1≤W)(a2:W≤64)(a3:0≤N)(a4:N*W=M)(a7:M≤1048576)(i0:0≤i)(i1:i<N):0≤i*W∧i*W+W≤M∧i*W≤M-W∧i*W≤1048576:=by
 have h1:=Int.mul_nonneg i0 (show 0≤W by omega);have h2:=Int.mul_le_mul_of_nonneg_right (show i+1≤N by omega) (show 0≤W by omega);rw[Int.add_mul,Int.one_mul]at h2;omega
theorem get_slice(N W M:Int)(xs:List Nat)(i:Int)(hk:ichk N W M xs=true)(i0:0≤i)(i1:i<N):slcX M xs (i*W) W=igX N W M xs i∧slcE M xs (i*W) W=igE N W M xs i:=by
 obtain⟨a1,a2,a3,a4,a5,a6,a7,a8⟩:=ichk_out N W M xs hk;obtain⟨q1,q2,q3,q4⟩:=get_place N W M i a1 a2 a3 a4 a7 i0 i1;have e:=igE_of N W M xs i hk i0 i1
 have e2:slcE M xs (i*W) W=0:=by
  unfold slcE;rw[if_neg (by simp[a5];omega),if_neg (by omega)]
 refine⟨?_,by rw[e,e2]⟩;unfold slcX igX numAt;rw[if_pos e,if_pos e2,Int.toNat_mul i0 (by omega)]
/-! What lay makes of the words. -/
theorem test_not(m r:Nat)(hm:m<18446744073709551616)(hr:r<64):(18446744073709551615-m).testBit r=!m.testBit r:=by
 have h:=Nat.testBit_two_pow_sub_succ (n:=64) (x:=m) (by rw[show(2:Nat)^64=18446744073709551616 from rfl];exact hm) r
 rw[show(2:Nat)^64-(m+1)=18446744073709551615-m by rw[show(2:Nat)^64=18446744073709551616 from rfl];omega]at h;rw[h];simp[hr]
def lay1(ys:List Nat)(p W v:Nat):List Nat:=ys.set (p/64) ((gt ys (p/64)&&&(18446744073709551615-(2^W-1)*2^(p%64)%18446744073709551616))|||v*2^(p%64)%18446744073709551616)
def layL(ys:List Nat)(p W v:Nat):List Nat:=
 if 64-p%64<W then (lay1 ys p W v).set (p/64+1) ((gt ys (p/64+1)&&&(18446744073709551615-(2^W-1)/2^(64-p%64)))|||v/2^(64-p%64))else lay1 ys p W v
theorem length_lay1(ys:List Nat)(p W v:Nat):(lay1 ys p W v).length=ys.length:=by simp[lay1]
theorem length_layL(ys:List Nat)(p W v:Nat):(layL ys p W v).length=ys.length:=by
 unfold layL;split<;>simp[lay1]
theorem bitAt_layL(ys:List Nat)(p W v:Nat)(hW:1≤W)(hW2:W≤64)(hv:v<2^W)(hl:p+W≤64*ys.length)(i:Nat):
  bitAt (layL ys p W v) i=if p≤i∧i<p+W then v.testBit (i-p)else bitAt ys i:=by
 have hp:p/64<ys.length:=by omega
 have hm:(2:Nat)^W-1<18446744073709551616:=by
  have:=Nat.pow_le_pow_right (n:=2) (j:=64) (by decide) hW2;rw[show(2:Nat)^64=18446744073709551616 from rfl]at this;omega
 have hv0:∀j,W≤j→v.testBit j=false:=fun j hj=>Nat.testBit_lt_two_pow (Nat.lt_of_lt_of_le hv (Nat.pow_le_pow_right (by decide) hj))
 have first:∀r,r<64→((gt ys (p/64)&&&(18446744073709551615-(2^W-1)*2^(p%64)%18446744073709551616))|||v*2^(p%64)%18446744073709551616).testBit r=if p%64≤r∧r<p%64+W then v.testBit (r-p%64)else (gt ys (p/64)).testBit r:=by
  intro r hr;rw[Nat.testBit_or,Nat.testBit_and,test_not _ _ (Nat.mod_lt _ (by decide)) hr,test_shl _ _ _ hr,test_shl _ _ _ hr,Nat.testBit_two_pow_sub_one];by_cases c:p%64≤r
  ·by_cases c2:r<p%64+W
   ·rw[if_pos ⟨c,c2⟩];simp[c,show r-p%64<W by omega]
   ·rw[if_neg (by omega),hv0 (r-p%64) (by omega)];simp[show ¬r-p%64<W by omega]
  ·rw[if_neg (by omega)];simp[c]
 have second:∀r,r<64→((gt ys (p/64+1)&&&(18446744073709551615-(2^W-1)/2^(64-p%64)))|||v/2^(64-p%64)).testBit r=if r+(64-p%64)<W then v.testBit (r+(64-p%64))else (gt ys (p/64+1)).testBit r:=by
  intro r hr;rw[Nat.testBit_or,Nat.testBit_and,test_not _ _ (Nat.lt_of_le_of_lt (Nat.div_le_self _ _) hm) hr,test_shr,test_shr,Nat.testBit_two_pow_sub_one];by_cases c:r+(64-p%64)<W
  ·rw[if_pos c,Nat.add_comm r (64-p%64)];simp[show 64-p%64+r<W by omega]
  ·rw[if_neg c,hv0 (64-p%64+r) (by omega)];simp[show ¬64-p%64+r<W by omega]
 have at1:∀zs:List Nat,(∀j,j≠p/64→gt zs j=gt ys j)→gt zs (p/64)=((gt ys (p/64)&&&(18446744073709551615-(2^W-1)*2^(p%64)%18446744073709551616))|||v*2^(p%64)%18446744073709551616)→(p%64+W≤64∨i/64≠p/64+1)→bitAt zs i=if p≤i∧i<p+W then v.testBit (i-p)else bitAt ys i:=by
  intro zs h1 h2 h3;unfold bitAt;by_cases e:i/64=p/64
  ·rw[e,h2,first _ (by omega)];by_cases c:p≤i∧i<p+W
   ·rw[if_pos (by omega),if_pos c];congr 1;omega
   ·rw[if_neg (by omega),if_neg c]
  ·rw[h1 _ e,if_neg (by omega)]
 have g1:∀j,gt (lay1 ys p W v) j=if p/64=j then ((gt ys (p/64)&&&(18446744073709551615-(2^W-1)*2^(p%64)%18446744073709551616))|||v*2^(p%64)%18446744073709551616)else gt ys j:=fun j=>gt_set ys _ _ _ hp
 unfold layL;by_cases c:64-p%64<W
 ·rw[if_pos c];have hp1:p/64+1<ys.length:=by omega
  have g2:∀j,gt ((lay1 ys p W v).set (p/64+1) ((gt ys (p/64+1)&&&(18446744073709551615-(2^W-1)/2^(64-p%64)))|||v/2^(64-p%64))) j=if p/64+1=j then ((gt ys (p/64+1)&&&(18446744073709551615-(2^W-1)/2^(64-p%64)))|||v/2^(64-p%64))else gt (lay1 ys p W v) j:=fun j=>gt_set _ _ _ _ (by rw[length_lay1];exact hp1)
  by_cases e:i/64=p/64+1
  ·unfold bitAt;rw[g2,if_pos e.symm,second _ (by omega)];by_cases d:p≤i∧i<p+W
   ·rw[if_pos (by omega),if_pos d];congr 1;omega
   ·rw[if_neg (by omega),if_neg d,e]
  ·refine Eq.trans ?_ (at1 (lay1 ys p W v) (fun j hj=>by rw[g1,if_neg (by omega)]) (by rw[g1,if_pos rfl]) (.inr e));unfold bitAt;rw[g2,if_neg (by omega)]
 ·rw[if_neg c];exact at1 (lay1 ys p W v) (fun j hj=>by rw[g1,if_neg (by omega)]) (by rw[g1,if_pos rfl]) (.inl (by omega))
theorem fit_layL(ys:List Nat)(hf:Fit ys)(p W v:Nat)(hv:v<18446744073709551616):Fit (layL ys p W v):=by
 have h1:Fit (lay1 ys p W v):=fit_set ys hf _ _ (or_lt _ _ (Nat.lt_of_le_of_lt Nat.and_le_left (hf _)) (Nat.mod_lt _ (by decide)));unfold layL;split
 ·exact fit_set _ h1 _ _ (or_lt _ _ (Nat.lt_of_le_of_lt Nat.and_le_left (hf _)) (Nat.lt_of_le_of_lt (Nat.div_le_self _ _) hv))
 ·exact h1
theorem length_mkS(l:List Nat)(W k:Nat):(mkS l W k).length=(l.length*W+63)/64:=length_rowOf _ _
theorem fit_mkS(l:List Nat)(W k:Nat):Fit (mkS l W k):=fit_rowOf _ _
theorem mkS_zero(l:List Nat)(W:Nat):rowOf (l.length*W) (fun _=>false)=mkS l W 0:=rowOf_congr _ _ _ fun i _=>by simp
theorem mul_next(n W k:Nat)(h:k<n):k*W+W≤n*W:=by
 have:=Nat.mul_le_mul_right W (show k+1≤n by omega);rw[Nat.add_mul,Nat.one_mul]at this;exact this
theorem mkS_step(l:List Nat)(W k:Nat)(hW:1≤W)(hW2:W≤64)(hk:k<l.length)(hv:gt l k<2^W)(hv2:gt l k<18446744073709551616):layL (mkS l W k) (k*W) W (gt l k)=mkS l W (k+1):=by
 have hn:=mul_next l.length W k hk;refine eq_rowOf _ _ _ (fit_layL _ (fit_mkS _ _ _) _ _ _ hv2) (by rw[length_layL,length_mkS]) fun i _=>?_;rw[bitAt_layL _ _ _ _ hW hW2 hv (by rw[length_mkS];omega) i];unfold mkS
 rw[bitAt_rowOf,Nat.add_mul,Nat.one_mul];by_cases c:k*W≤i∧i<k*W+W
 ·rw[if_pos c]
  have e1:i/W=k:=by
   rw[Nat.div_eq_iff (by omega)];rw[Nat.mul_comm]at c;constructor<;>(try rw[Nat.mul_comm])<;>omega
  have e2:i%W=i-k*W:=by
   have:=Nat.div_add_mod i W;rw[e1,Nat.mul_comm]at this;omega
  rw[e1,e2];simp[c.2,show i<l.length*W by omega]
 ·rw[if_neg c];by_cases d:i<k*W
  ·simp[d,show i<k*W+W by omega]
  ·simp[d,show ¬i<k*W+W by omega]
end Bit
end Go.Proofs.YtleegaihbgbcjabGreatDoor
namespace Go.Proofs.YtleegaihbgbcjabGreatDoor
open Go.RowKit Num Bit
theorem wide_ok(W:Int)(h0:1≤W)(h1:W≤64)(w:World):
  Calls Tryz.prog 201 #[.int .i64 W] w fun e w'=>e=.returned .nilIface∧w'=w:=by
 go_enter Tryz.func201,Tryz.ntmps201;go_wp2;go_ret;exact⟨rfl,rfl⟩
theorem wide_bad(W:Int)(h:W<1∨64<W)(w:World):
  Calls Tryz.prog 201 #[.int .i64 W] w fun e w'=>(∃s,e=.returned (.iface 230 (.agg #[.int .i64 2,.string s])))∧w'=w:=by
 rcases h with h | h
 ·go_enter Tryz.func201,Tryz.ntmps201;go_wp2;go_ret;exact⟨⟨_,rfl⟩,rfl⟩
 ·have h':¬W<1:=by omega
  go_enter Tryz.func201,Tryz.ntmps201;go_wp2;go_ret;exact⟨⟨_,rfl⟩,rfl⟩
theorem narrow_ok(v W:Int)(h0:0≤v)(h1:v<18446744073709551616)(h:lenI v≤W)(w:World):
  Calls Tryz.prog 202 #[.int .u64 v,.int .i64 W] w fun e w'=>e=.returned .nilIface∧w'=w:=by
 go_enter Tryz.func202,Tryz.ntmps202;go_wp2_with (go_at_call 183;refine(len_c _ ?_ ?_ _).mono ?_;exact h0;exact h1;rintro e w' ⟨rfl,rfl⟩);go_ret;exact⟨rfl,rfl⟩
def Box4(w:World)(b:Nat)(p q r s:Value):Prop:=b<w.heap.size∧w.cell? ⟨b,0,none⟩=some p∧w.cell? ⟨b,1,none⟩=some q∧w.cell? ⟨b,2,none⟩=some r∧w.cell? ⟨b,3,none⟩=some s
theorem Box4.new{w w':World}{p q r s:Value}{T:TypeId}(hb:Below (w.alloc (.cells #[p,q,r,s] T)).heap.size (w.alloc (.cells #[p,q,r,s] T)) w'):Box4 w' w.heap.size p q r s∧Below w.heap.size w w':=by
 have hz:(w.alloc (.cells #[p,q,r,s] T)).heap.size=w.heap.size+1:=by simp
 refine⟨⟨?_,?_,?_,?_,?_⟩,?_⟩
 ·have:=hb.size;omega
 ·rw[hb.cell (p:=⟨w.heap.size,0,none⟩) (by simp)];simp
 ·rw[hb.cell (p:=⟨w.heap.size,1,none⟩) (by simp)];simp
 ·rw[hb.cell (p:=⟨w.heap.size,2,none⟩) (by simp)];simp
 ·rw[hb.cell (p:=⟨w.heap.size,3,none⟩) (by simp)];simp
 ·exact(below_alloc w _).trans (hb.mono (by omega))
theorem mayBe_ok(N W M:Int)(ao:Option Addr)(xs:List Nat)(cap:Nat)(w:World)(hx:Wd w ao xs)(hk:ichk N W M xs=true):
  Calls Tryz.prog 205 #[.agg #[.int .i64 N,.int .i64 W,.int .i64 M,.slice ao xs.length cap]] w fun e w'=>e=.returned .nilIface∧Below w.heap.size w w':=by
 have K:∀o,Wd (w.alloc o) ao xs:=fun o=>hx.keep (below_alloc w o);obtain⟨a1,a2,a3,a4,a5,a6,a7,a8⟩:=ichk_out N W M xs hk;have d1:(N*W != M)=false:=by simpa using a4
 have hm:0≤N*W:=by omega
 have hm2:N*W≤1048576:=by omega
 clear a4 hk;go_enter Tryz.func205,Tryz.ntmps205
 go_wp2_with (first | (go_at_call 201;refine(wide_ok _ ?_ ?_ _).mono ?_;exact a1;exact a2;rintro e w' ⟨rfl,rfl⟩) | (go_at_call 83;refine(check_c _ _ _ _ _ (K _)).mono ?_;rintro e w' ⟨rfl,hb⟩;have KK:=Box4.new hb;clear hb;obtain⟨⟨hz,c0,c1,c2,c3⟩,hw⟩:=KK))
 go_ret;exact⟨rfl,by assumption⟩
theorem mayBe_bad(N W M:Int)(ao:Option Addr)(xs:List Nat)(cap:Nat)(w:World)(hx:Wd w ao xs)(hk:ichk N W M xs=false):
  Calls Tryz.prog 205 #[.agg #[.int .i64 N,.int .i64 W,.int .i64 M,.slice ao xs.length cap]] w fun e w'=>(∃s,e=.returned (.iface 230 (.agg #[.int .i64 2,.string s])))∧Below w.heap.size w w':=by
 have K:∀o,Wd (w.alloc o) ao xs:=fun o=>hx.keep (below_alloc w o);by_cases c:W<1∨64<W
 ·clear hk;go_enter Tryz.func205,Tryz.ntmps205;go_wp2_with (go_at_call 201;refine(wide_bad _ ?_ _).mono ?_;exact c;rintro e w' ⟨⟨s,rfl⟩,rfl⟩);go_ret;exact⟨⟨_,rfl⟩,below_alloc w _⟩
 have a1:1≤W:=by omega
 have a2:W≤64:=by omega
 clear c;cases hc:chk M xs with
 | false=>
  clear hk;go_enter Tryz.func205,Tryz.ntmps205
  go_wp2_with (first | (go_at_call 201;refine(wide_ok _ ?_ ?_ _).mono ?_;exact a1;exact a2;rintro e w' ⟨rfl,rfl⟩) | (go_at_call 83;refine(check_c _ _ _ _ _ (K _)).mono ?_;rintro e w' ⟨rfl,hb⟩;have KK:=Box4.new hb;clear hb;obtain⟨⟨hz,c0,c1,c2,c3⟩,hw⟩:=KK))
  go_ret;exact⟨⟨_,rfl⟩,by assumption⟩
 | true=>
  obtain⟨m0,m1,_,_⟩:=chk_out M xs hc;by_cases n0:N<0
  ·clear hk;go_enter Tryz.func205,Tryz.ntmps205
   go_wp2_with (first | (go_at_call 201;refine(wide_ok _ ?_ ?_ _).mono ?_;exact a1;exact a2;rintro e w' ⟨rfl,rfl⟩) | (go_at_call 83;refine(check_c _ _ _ _ _ (K _)).mono ?_;rintro e w' ⟨rfl,hb⟩;have KK:=Box4.new hb;clear hb;obtain⟨⟨hz,c0,c1,c2,c3⟩,hw⟩:=KK))
   go_ret;exact⟨⟨_,rfl⟩,by assumption⟩
  have n0':0≤N:=by omega
  by_cases n1:M<N
  ·clear hk n0;go_enter Tryz.func205,Tryz.ntmps205
   go_wp2_with (first | (go_at_call 201;refine(wide_ok _ ?_ ?_ _).mono ?_;exact a1;exact a2;rintro e w' ⟨rfl,rfl⟩) | (go_at_call 83;refine(check_c _ _ _ _ _ (K _)).mono ?_;rintro e w' ⟨rfl,hb⟩;have KK:=Box4.new hb;clear hb;obtain⟨⟨hz,c0,c1,c2,c3⟩,hw⟩:=KK))
   go_ret;exact⟨⟨_,rfl⟩,by assumption⟩
  have n2:¬N*W=M:=fun e=>by unfold ichk at hk;rw[hc,show decide (1≤W∧W≤64∧0≤N∧N*W=M)=true by simp;omega]at hk;cases hk
  have n3:(N*W != M)=true:=by simpa using n2
  have b1:0≤N*W:=Int.mul_nonneg n0' (by omega);have b2:N*W≤1048576*64:=Int.mul_le_mul (by omega) a2 (by omega) (by omega);clear hk n0 n2;go_enter Tryz.func205,Tryz.ntmps205
  go_wp2_with (first | (go_at_call 201;refine(wide_ok _ ?_ ?_ _).mono ?_;exact a1;exact a2;rintro e w' ⟨rfl,rfl⟩) | (go_at_call 83;refine(check_c _ _ _ _ _ (K _)).mono ?_;rintro e w' ⟨rfl,hb⟩;have KK:=Box4.new hb;clear hb;obtain⟨⟨hz,c0,c1,c2,c3⟩,hw⟩:=KK))
  go_ret;exact⟨⟨_,rfl⟩,by assumption⟩
theorem icheck_c(N W M:Int)(ao:Option Addr)(xs:List Nat)(cap:Nat)(w:World)(hx:Wd w ao xs):
  Calls Tryz.prog 184 #[.agg #[.int .i64 N,.int .i64 W,.int .i64 M,.slice ao xs.length cap]] w fun e w'=>e=.returned (.bool (ichk N W M xs))∧Below w.heap.size w w':=by
 have K:∀o,Wd (w.alloc o) ao xs:=fun o=>hx.keep (below_alloc w o);cases hk:ichk N W M xs with
 | true=>
  go_enter Tryz.func184,Tryz.ntmps184;go_wp2_with (go_at_call 205;refine(mayBe_ok _ _ _ _ _ _ _ (K _) hk).mono ?_;rintro e w' ⟨rfl,hb⟩;have KK:=Box4.new hb;clear hb;obtain⟨⟨hz,c0,c1,c2,c3⟩,hw⟩:=KK);go_ret
  exact⟨rfl,by assumption⟩
 | false=>
  go_enter Tryz.func184,Tryz.ntmps184;go_wp2_with (go_at_call 205;refine(mayBe_bad _ _ _ _ _ _ _ (K _) hk).mono ?_;rintro e w' ⟨⟨s,rfl⟩,hb⟩;have KK:=Box4.new hb;clear hb;obtain⟨⟨hz,c0,c1,c2,c3⟩,hw⟩:=KK);go_ret
  exact⟨rfl,by assumption⟩
theorem place_ok(N W M:Int)(ao:Option Addr)(xs:List Nat)(cap:Nat)(i:Int)(w:World)(hx:Wd w ao xs)(hE:igE N W M xs i=0):
  Calls Tryz.prog 197 #[.agg #[.int .i64 N,.int .i64 W,.int .i64 M,.slice ao xs.length cap],.int .i64 i] w fun e w'=>e=.returned .nilIface∧Below w.heap.size w w':=by
 have K:∀o,Wd (w.alloc o) ao xs:=fun o=>hx.keep (below_alloc w o);obtain⟨hk,i0,i1⟩:=igE_zero N W M xs i hE;clear hE;go_enter Tryz.func197,Tryz.ntmps197
 go_wp2_with (go_at_call 205;refine(mayBe_ok _ _ _ _ _ _ _ (K _) hk).mono ?_;rintro e w' ⟨rfl,hb⟩;have KK:=Box4.new hb;clear hb;obtain⟨⟨hz,c0,c1,c2,c3⟩,hw⟩:=KK);go_ret;exact⟨rfl,by assumption⟩
theorem iget_ok(N W M:Int)(ao:Option Addr)(xs:List Nat)(cap:Nat)(i:Int)(w:World)(hx:Wd w ao xs)(hf:Fit xs)(hE:igE N W M xs i=0):
  Calls Tryz.prog 175 #[.agg #[.int .i64 N,.int .i64 W,.int .i64 M,.slice ao xs.length cap],.int .i64 i] w fun e w'=>e=.returned (.tuple #[.int .u64 (igX N W M xs i),.int .i64 (igE N W M xs i)])∧Below w.heap.size w w':=by
 have K:∀o,Wd (w.alloc o) ao xs:=fun o=>hx.keep (below_alloc w o);obtain⟨hk,i0,i1⟩:=igE_zero N W M xs i hE;obtain⟨a1,a2,a3,a4,a5,a6,a7,a8⟩:=ichk_out N W M xs hk
 obtain⟨q1,q2,q3,q4⟩:=get_place N W M i a1 a2 a3 a4 a7 i0 i1;have R:Hid (slcX M xs (i*W) W=igX N W M xs i∧slcE M xs (i*W) W=igE N W M xs i):=get_slice N W M xs i hk i0 i1;clear a4 q3
 go_enter Tryz.func175,Tryz.ntmps175;go_wp2_with fail;refine(place_ok _ _ _ _ _ _ _ _ (K _) hE).mono ?_;rintro e w1 ⟨rfl,hb⟩;have KK:=Box4.new hb;clear hb K;obtain⟨⟨hz,c0,c1,c2,c3⟩,hw⟩:=KK;go_wp2_with fail
 refine(slice_c _ _ _ _ _ _ _ (hx.keep hw) hf (by omega) (by omega) (by omega) (by omega)).mono ?_;rintro e w2 ⟨rfl,hb⟩;have hw2:=hw.trans (hb.mono hw.size);clear hb;go_wp2;go_ret2
 exact⟨ret_pair (congrArg (Value.int IntKind.u64) (congrArg Int.ofNat R.out.1)) (congrArg (Value.int IntKind.i64) R.out.2),hw2⟩
theorem Turned.drew{g:Nat}{a w:World}(h:Turned g a w):Turned g a w.drew:=⟨h.os,h.tape,h.output,h.size,h.block⟩
theorem Own.drew{w:World}{g:Nat}{ys:List Nat}(h:Own w g ys):Own w.drew g ys:=h
theorem mask_n(W m:Nat)(hm:maskI (W:Int)=(m:Int))(w:World):
  Calls Tryz.prog 148 #[.int .i64 W] w fun e w'=>e=.returned (.int .u64 (m:Int))∧w'=w:=by
 have h:=mask_c (W:Int) w;rw[hm]at h;exact h
theorem mask_is(W:Nat)(h:W≤64):maskI (W:Int)=((2^W-1:Nat):Int):=by
 unfold maskI;rw[Int.toNat_natCast,Nat.min_eq_left h]
theorem lay_c(ys:List Nat)(l g cap p W v:Nat)(w:World)(hl:ys.length=l)(hO:Own w g ys)(hf:Fit ys)(hW:1≤W)(hW2:W≤64)(hv:v<18446744073709551616)(hp:p+W≤64*ys.length)(hpb:p≤1048576):
  Calls Tryz.prog 181 #[.slice (some ⟨g,0,none⟩) l cap,.int .i64 p,.int .i64 W,.int .u64 v] w fun e w'=>e=.returned (.tuple #[])∧Own w' g (layL ys p W v)∧Turned g w w':=by
 subst hl;obtain⟨m,hm⟩:∃m:Nat,m=2^W-1:=⟨_,rfl⟩;have hmm:Hid (maskI (W:Int)=(m:Int)):=by rw[hm];exact mask_is W hW2
 have hmb:Hid (m<18446744073709551616):=by
  have:=Nat.pow_le_pow_right (n:=2) (j:=64) (by decide) hW2;rw[show(2:Nat)^64=18446744073709551616 from rfl]at this;unfold Hid;omega
 have h1:p/64<ys.length:=by omega
 have l1':(p:Int)/64<(ys.length:Int):=by omega
 have e1:=hO.cell (p/64) h1;have f1:=hO.frozen (p/64)
 have A1:Hid (bits .andNot .u64 (gt ys (p/64):Int) ((m*2^(p%64)%18446744073709551616:Nat):Int)=((gt ys (p/64)&&&(18446744073709551615-m*2^(p%64)%18446744073709551616):Nat):Int)):=u64_andNot_nat _ _ (hf _) (Nat.mod_lt _ (by decide))
 have A2:Hid (bits .or .u64 ((gt ys (p/64)&&&(18446744073709551615-m*2^(p%64)%18446744073709551616):Nat):Int) ((v*2^(p%64)%18446744073709551616:Nat):Int)=(((gt ys (p/64)&&&(18446744073709551615-m*2^(p%64)%18446744073709551616))|||v*2^(p%64)%18446744073709551616:Nat):Int)):=u64_or_nat _ _ (Nat.lt_of_le_of_lt Nat.and_le_left (hf _)) (Nat.mod_lt _ (by decide))
 have HM:Hid (m=2^W-1):=hm;clear hm;by_cases c:64-p%64<W
 ·have c':(64:Int)-(p:Int)%64<(W:Int):=by omega
  have h2:p/64+1<ys.length:=by omega
  have l2':(p:Int)/64+1<(ys.length:Int):=by omega
  have e2:=hO.cell (p/64+1) h2;have f2:=hO.frozen (p/64+1)
  have B1:Hid (bits .andNot .u64 (gt ys (p/64+1):Int) ((m/2^(64-p%64):Nat):Int)=((gt ys (p/64+1)&&&(18446744073709551615-m/2^(64-p%64)):Nat):Int)):=u64_andNot_nat _ _ (hf _) (Nat.lt_of_le_of_lt (Nat.div_le_self _ _) hmb.out)
  have B2:Hid (bits .or .u64 ((gt ys (p/64+1)&&&(18446744073709551615-m/2^(64-p%64)):Nat):Int) ((v/2^(64-p%64):Nat):Int)=(((gt ys (p/64+1)&&&(18446744073709551615-m/2^(64-p%64)))|||v/2^(64-p%64):Nat):Int)):=u64_or_nat _ _ (Nat.lt_of_le_of_lt Nat.and_le_left (hf _)) (Nat.lt_of_le_of_lt (Nat.div_le_self _ _) hv)
  have R:Hid (layL ys p W v=((ys.set (p/64) ((gt ys (p/64)&&&(18446744073709551615-m*2^(p%64)%18446744073709551616))|||v*2^(p%64)%18446744073709551616)).set (p/64+1) ((gt ys (p/64+1)&&&(18446744073709551615-m/2^(64-p%64)))|||v/2^(64-p%64)))):=by
   unfold Hid layL lay1;rw[if_pos c,HM.out]
  clear c;go_enter Tryz.func181,Tryz.ntmps181;go_wp2_with (go_at_call 148;refine(mask_n _ _ hmm.out _).mono ?_;rintro e w' ⟨rfl,rfl⟩);go_region;go_wp2;go_region;go_wp2;go_end0
  rw[R.out,shl_nat,shl_nat,A1.out,A2.out,shr_cast,shr_cast,B1.out,B2.out];exact⟨rfl,((hO.set _ _).set _ _).drew.drew,(((Turned.refl _ _).set _ _).set _ _).drew.drew⟩
 ·have c':¬(64:Int)-(p:Int)%64<(W:Int):=by omega
  have R:Hid (layL ys p W v=(ys.set (p/64) ((gt ys (p/64)&&&(18446744073709551615-m*2^(p%64)%18446744073709551616))|||v*2^(p%64)%18446744073709551616))):=by
   unfold Hid layL lay1;rw[if_neg c,HM.out]
  clear c;go_enter Tryz.func181,Tryz.ntmps181;go_wp2_with (go_at_call 148;refine(mask_n _ _ hmm.out _).mono ?_;rintro e w' ⟨rfl,rfl⟩);go_region;go_wp2;go_end0;rw[R.out,shl_nat,shl_nat,A1.out,A2.out]
  exact⟨rfl,(hO.set _ _).drew,((Turned.refl _ _).set _ _).drew⟩
theorem imE_zero(W:Int)(l:List Nat)(h:imE W l=0):1≤W∧W≤64∧(l.length:Int)*W≤1048576∧∀j,j<l.length→lenI (gt l j)≤W:=by
 unfold imE at h;by_cases c:W<1∨64<W∨1048576<(l.length:Int)*W∨¬(∀j,j<l.length→lenI (gt l j)≤W)
 ·rw[if_pos c]at h;omega
 ·refine⟨by omega,by omega,by omega,?_⟩;exact Classical.byContradiction fun hc=>c (.inr (.inr (.inr hc)))
theorem quo_le(W n:Int)(h0:1≤W):n≤1048576/W↔n*W≤1048576:=Int.le_ediv_iff_mul_le (by omega)
theorem quo_bd(W:Int)(h0:1≤W):0≤1048576/W∧1048576/W≤1048576:=⟨Int.ediv_nonneg (by decide) (by omega),Int.ediv_le_self _ (by decide)⟩
theorem makeable_ok(W:Int)(al:Option Addr)(l:List Nat)(cap:Nat)(w:World)(hx:Wd w al l)(hf:Fit l)(hE:imE W l=0):
  Calls Tryz.prog 179 #[.int .i64 W,.slice al l.length cap] w fun e w'=>e=.returned .nilIface∧w'=w:=by
 obtain⟨a1,a2,a3,a4⟩:=imE_zero W l hE;have q1:(l.length:Int)≤1048576/W:=(quo_le W _ a1).2 a3;obtain⟨q2,q3⟩:=quo_bd W a1;have hll:l.length≤1048576:=by omega
 have HA:Hid (∀j,j<l.length→lenI (gt l j)≤W):=a4;clear hE a3 a4;go_enter Tryz.func179,Tryz.ntmps179;go_wp2_with (go_at_call 201;refine(wide_ok _ ?_ ?_ _).mono ?_;exact a1;exact a2;rintro e w' ⟨rfl,rfl⟩)
 go_loop [23] (fun i=>∃k:Nat,k≤l.length∧i=.int .i64 k) (fun i=>l.length-(intOf i).toNat)
 case atStart=>exact⟨0,by omega,rfl⟩
 case round=>
  obtain⟨k,hk,rfl⟩:=hrel;by_cases hlt:k<l.length
  ·obtain⟨b,off,rfl,hb,hc⟩:=hx (by omega);have e1:=hc k hlt;have hlt3:(k:Int)<(l.length:Int):=by omega
   have F1:Hid ((gt l k:Int)<18446744073709551616):=by unfold Hid;have:=hf k;omega
   clear hc;go_wp2_with (go_at_call 202;refine(narrow_ok _ _ ?_ ?_ ?_ _).mono ?_;(exact Int.natCast_nonneg _);exact F1.out;(exact HA.out k hlt);rintro e w' ⟨rfl,rfl⟩);go_round
   case rel=>exact⟨k+1,by omega,by go_num⟩
   case measure=>simp only[intOf];omega
  ·go_wp2;go_ret;exact⟨rfl,rfl⟩
theorem make_ok(W:Nat)(al:Option Addr)(l:List Nat)(cap k:Nat)(w:World)(hx:Wd w al l)(hf:Fit l)(hE:imE (W:Int) l=0)(hk:k=(l.length*W+63)/64):
  Calls Tryz.prog 144 #[.int .i64 W,.slice al l.length cap] w fun e w'=>∃g,e=.returned (.tuple #[.agg #[.int .i64 l.length,.int .i64 W,.int .i64 ((l.length:Int)*W),.slice (some ⟨g,0,none⟩) k k],.int .i64 0])∧w.heap.size≤g∧Own w' g (mkS l W l.length)∧Below w.heap.size w w':=by
 obtain⟨a1,a2,a3,a4⟩:=imE_zero W l hE;have K:∀o,Wd (w.alloc o) al l:=fun o=>hx.keep (below_alloc w o)
 have hm:l.length*W≤1048576:=by
  have:((l.length*W:Nat):Int)≤1048576:=by rw[Int.natCast_mul];exact a3
  omega
 have hll:l.length≤1048576:=Nat.le_trans (Nat.le_mul_of_pos_right _ (by omega)) hm;have hmi:(0:Int)≤(l.length:Int)*(W:Int):=Int.mul_nonneg (by omega) (by omega)
 have HK:Hid (k=(l.length*W+63)/64):=hk;have HK1:Hid (((l.length:Int)*W+63)/64=(k:Int)):=by unfold Hid;rw[←Int.natCast_mul];omega
 have HE:Hid (imE (W:Int) l=0):=hE;have HA:Hid (∀j,j<l.length→gt l j<2^W):=fun j hj=>(lenI_fit _ _).1 (a4 j hj);clear hk hE a4;go_enter Tryz.func144,Tryz.ntmps144;go_wp2_with fail
 refine(makeable_ok _ _ _ _ _ (K _) hf HE.out).mono ?_;rintro e w' ⟨rfl,hw'⟩;subst hw';go_wp2_with fail;refine(new_ok _ k _ hmi a3 HK1.out).mono ?_;rintro e w1 ⟨g,rfl,hg1,hg2,hO,hb⟩
 have KF:w1.frozen? ⟨w.heap.size,0,none⟩=false∧w1.frozen? ⟨w.heap.size,1,none⟩=false∧w1.frozen? ⟨w.heap.size,2,none⟩=false∧w1.frozen? ⟨w.heap.size,3,none⟩=false:=
  ⟨(hb.frozen (p:=⟨w.heap.size,0,none⟩) (by simp)).trans (by simp),(hb.frozen (p:=⟨w.heap.size,1,none⟩) (by simp)).trans (by simp),(hb.frozen (p:=⟨w.heap.size,2,none⟩) (by simp)).trans (by simp),(hb.frozen (p:=⟨w.heap.size,3,none⟩) (by simp)).trans (by simp)⟩
 have KK:=Box4.new hb;have hg0:w.heap.size+1≤g:=by simpa using hg1
 clear hb hg1 K;obtain⟨⟨hz,k0,k1,k2,k3⟩,hw⟩:=KK;obtain⟨f0,f1,f2,f3⟩:=KF;go_wp2
 go_loopw [33] (fun i wr=>∃q:Nat,q≤l.length∧i=.int .i64 q∧Own wr g (mkS l W q)∧(wr.cell? ⟨w1.heap.size,0,none⟩=some (.int .i64 ((l.length:Int)*W))∧wr.cell? ⟨w1.heap.size,1,none⟩=some (.slice (some ⟨g,0,none⟩) k k))∧(wr.cell? ⟨w.heap.size,0,none⟩=some (.int .i64 0)∧wr.cell? ⟨w.heap.size,1,none⟩=some (.int .i64 0)∧wr.cell? ⟨w.heap.size,2,none⟩=some (.int .i64 0)∧wr.cell? ⟨w.heap.size,3,none⟩=some (.slice none 0 0))∧(wr.frozen? ⟨w.heap.size,0,none⟩=false∧wr.frozen? ⟨w.heap.size,1,none⟩=false∧wr.frozen? ⟨w.heap.size,2,none⟩=false∧wr.frozen? ⟨w.heap.size,3,none⟩=false)∧Below w.heap.size w wr) (fun i _=>l.length-(intOf i).toNat)
 case atStart=>
  have hb:=below_alloc w1 (.cells #[.int .i64 ((l.length:Int)*W),.slice (some ⟨g,0,none⟩) k k] 53)
  refine⟨0,Nat.zero_le _,rfl,?_,⟨by simp,by simp⟩,⟨(hb.cell (p:=⟨w.heap.size,0,none⟩) hz).trans k0,(hb.cell (p:=⟨w.heap.size,1,none⟩) hz).trans k1,(hb.cell (p:=⟨w.heap.size,2,none⟩) hz).trans k2,(hb.cell (p:=⟨w.heap.size,3,none⟩) hz).trans k3⟩,⟨(hb.frozen (p:=⟨w.heap.size,0,none⟩) hz).trans f0,(hb.frozen (p:=⟨w.heap.size,1,none⟩) hz).trans f1,(hb.frozen (p:=⟨w.heap.size,2,none⟩) hz).trans f2,(hb.frozen (p:=⟨w.heap.size,3,none⟩) hz).trans f3⟩,hw.trans (hb.mono (by omega))⟩
  rw[←mkS_zero,←rep_row (l.length*W) k HK.out];exact hO.keep hb
 case round=>
  obtain⟨q,hq,rfl,hOr,⟨r0,r1⟩,⟨s0,s1,s2,s3⟩,⟨t0,t1,t2,t3⟩,hwr⟩:=hrel;by_cases hlt:q<l.length
  ·obtain⟨b,off,rfl,hb,hc⟩:=hx (by omega);have e1:=(hwr.cell (p:=⟨b,off+q,none⟩) hb).trans (hc q hlt);have hlt3:(q:Int)<(l.length:Int):=by omega
   have hn:=mul_next l.length W q hlt;have hqW:q*W≤1048576:=by omega
   have hqi:(0:Int)≤(q:Int)*(W:Int):=Int.mul_nonneg (by omega) (by omega);have hqi2:(q:Int)*(W:Int)≤1048576:=by rw[←Int.natCast_mul];omega
   have FS:Hid (layL (mkS l W q) (q*W) W (gt l q)=mkS l W (q+1)):=mkS_step l W q (by omega) (by omega) hlt (HA.out q hlt) (hf q)
   have HLN:Hid ((mkS l W q).length=k):=by unfold Hid;rw[length_mkS];exact HK.out.symm
   have HP:Hid (q*W+W≤64*(mkS l W q).length):=by unfold Hid;rw[length_mkS];omega
   have HC:Hid ((q:Int)*(W:Int)=((q*W:Nat):Int)):=(Int.natCast_mul q W).symm;clear hc hn;go_wp2_with fail;rw[HC.out]
   refine(lay_c (mkS l W q) k g k (q*W) W (gt l q) _ HLN.out hOr (fit_mkS _ _ _) (by omega) (by omega) (hf q) HP.out hqW).mono ?_;rintro e w4 ⟨rfl,hO4,hT⟩;rw[FS.out]at hO4
   have u0:=(hT.cell (p:=⟨w1.heap.size,0,none⟩) (show w1.heap.size≠g by omega)).trans r0;have u1:=(hT.cell (p:=⟨w1.heap.size,1,none⟩) (show w1.heap.size≠g by omega)).trans r1
   have x0:=(hT.cell (p:=⟨w.heap.size,0,none⟩) (show w.heap.size≠g by omega)).trans s0;have x1:=(hT.cell (p:=⟨w.heap.size,1,none⟩) (show w.heap.size≠g by omega)).trans s1
   have x2:=(hT.cell (p:=⟨w.heap.size,2,none⟩) (show w.heap.size≠g by omega)).trans s2;have x3:=(hT.cell (p:=⟨w.heap.size,3,none⟩) (show w.heap.size≠g by omega)).trans s3
   have y0:=(hT.frozen (p:=⟨w.heap.size,0,none⟩) (show w.heap.size≠g by omega)).trans t0;have y1:=(hT.frozen (p:=⟨w.heap.size,1,none⟩) (show w.heap.size≠g by omega)).trans t1
   have y2:=(hT.frozen (p:=⟨w.heap.size,2,none⟩) (show w.heap.size≠g by omega)).trans t2;have y3:=(hT.frozen (p:=⟨w.heap.size,3,none⟩) (show w.heap.size≠g by omega)).trans t3
   have hw4:=hwr.trans (hT.below (B:=w.heap.size) (by omega));clear hT r0 r1 s0 s1 s2 s3 t0 t1 t2 t3 hwr hOr e1;go_wp2
   exact⟨⟨q+1,by omega,by go_num,hO4,⟨u0,u1⟩,⟨x0,x1,x2,x3⟩,⟨y0,y1,y2,y3⟩,hw4⟩,by simp only[intOf];omega⟩
  ·have hq2:q=l.length:=by omega
   rw[hq2]at hOr;clear hq2;go_wp2
   refine bodyPost_ret (v:=.tuple #[.agg #[.int .i64 l.length,.int .i64 W,.int .i64 ((l.length:Int)*W),.slice (some ⟨g,0,none⟩) k k],.int .i64 0]) (by simp[results,Tryz.results144,go_sem,s0,s1,s2,s3]) rfl ⟨g,rfl,by omega,?_,?_⟩
   ·exact(((hOr.set_other (by simp;omega) _).set_other (by simp;omega) _).set_other (by simp;omega) _).set_other (by simp;omega) _
   ·exact(((hwr.setCell (by simp) _).setCell (by simp) _).setCell (by simp) _).setCell (by simp) _
structure RB (w wr:World):Prop where
 c0:wr.cell? ⟨w.heap.size,0,none⟩=some (.int .i64 0)
 c1:wr.cell? ⟨w.heap.size,1,none⟩=some (.int .i64 0)
 c2:wr.cell? ⟨w.heap.size,2,none⟩=some (.int .i64 0)
 c3:wr.cell? ⟨w.heap.size,3,none⟩=some (.slice none 0 0)
 f0:wr.frozen? ⟨w.heap.size,0,none⟩=false
 f1:wr.frozen? ⟨w.heap.size,1,none⟩=false
 f2:wr.frozen? ⟨w.heap.size,2,none⟩=false
 f3:wr.frozen? ⟨w.heap.size,3,none⟩=false
 lt:w.heap.size<wr.heap.size
 bel:Below w.heap.size w wr
def lsS(n:Nat)(f:Nat→Nat)(k:Nat):List Nat:=(List.range n).map fun i=>if i<k then f i else 0
theorem length_lsS(n:Nat)(f:Nat→Nat)(k:Nat):(lsS n f k).length=n:=by simp[lsS]
theorem gt_lsS(n:Nat)(f:Nat→Nat)(k j:Nat):gt (lsS n f k) j=if j<n∧j<k then f j else 0:=by
 unfold lsS gt;rw[List.getD_eq_getElem?_getD,List.getElem?_map];by_cases h:j<n
 ·rw[List.getElem?_range h];by_cases c:j<k<;>simp[h,c]
 ·rw[List.getElem?_eq_none (by simp;omega)];simp[h]
theorem lsS_zero(n:Nat)(f:Nat→Nat):List.replicate n 0=lsS n f 0:=by
 refine list_ext _ _ (by rw[length_lsS];simp) fun i hi=>?_;rw[gt_lsS];simp only[List.length_replicate]at hi;unfold gt;rw[List.getD_eq_getElem?_getD,List.getElem?_replicate];simp[hi]
theorem lsS_step(n:Nat)(f:Nat→Nat)(k:Nat)(h:k<n):(lsS n f k).set k (f k)=lsS n f (k+1):=by
 refine list_ext _ _ (by rw[List.length_set,length_lsS,length_lsS]) fun i hi=>?_;rw[gt_set _ _ _ _ (by rw[length_lsS];exact h),gt_lsS,gt_lsS];rw[List.length_set,length_lsS]at hi;by_cases c:k=i
 ·subst c;simp[h]
 ·rw[if_neg c];by_cases d:i<k
  ·simp[hi,d,show i<k+1 by omega]
  ·simp[d,show ¬i<k+1 by omega]
theorem lsS_all(n:Nat)(f:Nat→Nat):lsS n f n=(List.range n).map f:=by
 unfold lsS;refine List.map_congr_left fun i hi=>?_;rw[if_pos (List.mem_range.1 hi)]
theorem gt_map(n:Nat)(f:Nat→Nat)(j:Nat)(h:j<n):gt ((List.range n).map f) j=f j:=by
 rw[←lsS_all,gt_lsS,if_pos ⟨h,h⟩]
/-! The document's List: what is appended lies in memory of the call's own,with room behind it. -/
theorem owns_below{w w':World}{base e n:Nat}{v:Value}{vs:List Value}(h:w.ownsRow base e 1 v n vs)(hb:Below w.heap.size w w'):w'.ownsRow base e 1 v n vs:=by
 obtain⟨h1,h2 | ⟨g,cap,cur,e1,e2,hh,r⟩⟩:=h
 ·exact⟨h1,.inl h2⟩
 ·exact⟨h1,.inr ⟨g,cap,cur,e1,e2,(hb.block g ((Array.getElem?_eq_some_iff.1 hh).1)).trans hh,r⟩⟩
end Go.Proofs.YtleegaihbgbcjabGreatDoor
