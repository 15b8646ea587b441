import Derived.Test.YtfnkklkdajlhlaaGreatDoorU08
set_option linter.unusedVariables false
set_option linter.unusedSimpArgs false
set_option maxRecDepth 100000
set_option maxHeartbeats 16000000
namespace Go.Proofs.YtfnkklkdajlhlaaGreatDoor
open Go.RowKit Num Bit
theorem bones_lo(N:Int)(ao:Option Addr)(xs:List Nat)(cap:Nat)(n:Int)(w:World)(hx:Wd w ao xs)(hg:Fit xs)(hcap:xs.length≤cap)(hnN:n≤N):
  Calls Tryz.prog 101 #[.agg #[.int .i64 N,.slice ao xs.length cap],.int .i64 n] w fun e w'=>e=.returned (.int .i64 (onesI N xs n))∧Below w.heap.size w w':=by
 have K:∀o,Wd (w.alloc o) ao xs:=fun o=>hx.keep (below_alloc w o);have hM:min n N=n:=by omega
 cases hk:chk N xs with
 | false=>
  have R:Hid (0=onesI N xs n):=by unfold onesI Hid;rw[hk];rfl
  clear hM;go_enter Tryz.func101,Tryz.ntmps101;go_wp2_with (go_at_call 92;refine(check_c _ _ _ _ _ (K _)).mono ?_;rintro e w' ⟨rfl,hb⟩;obtain⟨c0,c1,hz,hw⟩:=box_cells hb;clear hb);go_ret
  exact⟨ret_int R.out,by assumption⟩
 | true=>
  obtain⟨hc0,hc1,hc2,_⟩:=chk_out N xs hk;by_cases hm:n≤0
  ·have R:Hid (0=onesI N xs n):=by unfold onesI Hid;rw[hk,hM,show(n).toNat=0 by omega];rfl
   clear hM;go_enter Tryz.func101,Tryz.ntmps101;go_wp2_with (go_at_call 92;refine(check_c _ _ _ _ _ (K _)).mono ?_;rintro e w' ⟨rfl,hb⟩;obtain⟨c0,c1,hz,hw⟩:=box_cells hb;clear hb);go_ret
   exact⟨ret_int R.out,by assumption⟩
  ·obtain⟨m,rfl⟩:=Int.eq_ofNat_of_zero_le (show 0≤n by omega);obtain⟨b,off,rfl,hb,hc⟩:=hx (by omega);have R:Hid (((cntB xs m:Nat):Int)=onesI N xs (m:Int)):=by unfold onesI Hid;rw[hk,hM];rfl
   have HC:Hid (∀i,i<xs.length→w.cell? ⟨b,off+i,none⟩=some (.int .u64 (gt xs i))):=hc;have hl1:m/64≤xs.length:=by omega
   have hm0:decide (m=0)=false:=by simp;omega
   have hm1:(m==0)=false:=by simp;omega
   have hl2:m/64≤cap:=by omega
   have hl3:m≤1048576:=by omega
   have HL:Hid (m%64=0∨m/64<xs.length):=by unfold Hid;omega
   have hl5:(m:Int)/64≤(cap:Int):=by omega
   clear hM hc hc2;go_enter Tryz.func101,Tryz.ntmps101;go_wp2_with (go_at_call 92;refine(check_c _ _ _ _ _ (K _)).mono ?_;rintro e w' ⟨rfl,hb⟩;obtain⟨c0,c1,hz,hw⟩:=box_cells hb;clear hb)
   go_loop [5,26] (fun c i=>∃k t:Nat,k≤m/64∧t≤64*k∧i=.int .i64 k∧c=.int .i64 t∧Hid (t=cntB xs (64*k))) (fun _ i=>m/64-(intOf i).toNat)
   case atStart=>exact⟨0,0,by omega,by omega,rfl,rfl,rfl⟩
   case round=>
    obtain⟨k,t,hk1,ht,rfl,rfl,H⟩:=hrel;by_cases hlt:k<m/64
    ·have hck:=(hw.cell (p:=⟨b,off+k,none⟩) (by assumption)).trans (HC.out k (by omega));have hf:=hg k;have hp:=pop_bounds (gt xs k)
     go_wp2_with (go_at_call 153;refine(pop_c _ ?_ ?_ _).mono ?_;exact Int.natCast_nonneg _;exact Int.ofNat_lt.2 hf;rintro e w' ⟨rfl,rfl⟩);go_round
     case rel=>
      refine⟨k+1,t+cnt (gt xs k) 64,by omega,?_,by go_num,?_,?_⟩
      ·have:=cnt_le (gt xs k) 64;omega
      ·unfold popI;rw[Int.toNat_natCast];go_num
      ·have e:=cntB_word xs k 64 (by omega);rw[show 64*(k+1)=64*k+64 by omega,e,←H.out];rfl
     case measure=>simp only[intOf];omega
    ·have hkm:k=m/64:=by omega
     have HT:Hid (t=cntB xs (64*(m/64))):=by rw[←hkm];exact H.out
     clear H;by_cases hz0:m%64=0
     ·have R2:Hid ((t:Int)=onesI N xs (m:Int)):=by
       unfold Hid;rw[←R.out,HT.out,show 64*(m/64)=m by omega]
      have hz1:¬0<(m:Int)%64:=by omega
      clear hkm;go_wp2;go_ret;exact⟨ret_int R2.out,by assumption⟩
     ·have hz1:0<(m:Int)%64:=by omega
      have hl6:m/64<xs.length:=by have:=HL.out;omega
      have hl7:(m:Int)/64<(xs.length:Int):=by omega
      have hck:=(hw.cell (p:=⟨b,off+m/64,none⟩) (by assumption)).trans (HC.out (m/64) hl6);have hf:=hg (m/64);have hp:=rank_bounds (gt xs (m/64)) ((m:Int)%64)
      have R2:Hid ((t:Int)+rankI (gt xs (m/64)) ((m:Int)%64)=onesI N xs (m:Int)):=by
       unfold Hid;rw[←R.out,HT.out];have e:=cntB_word xs (m/64) (m%64) (by omega);rw[show 64*(m/64)+m%64=m by omega]at e;rw[e];unfold rankI
       rw[Int.toNat_natCast,show min ((m:Int)%64).toNat 64=m%64 by omega];omega
      clear hkm;go_wp2_with (go_at_call 160;refine(rank_c _ _ ?_ ?_ _).mono ?_;exact Int.natCast_nonneg _;exact Int.ofNat_lt.2 hf;rintro e w' ⟨rfl,rfl⟩);go_ret;exact⟨ret_int R2.out,by assumption⟩
theorem bones_hi(N:Int)(ao:Option Addr)(xs:List Nat)(cap:Nat)(n:Int)(w:World)(hx:Wd w ao xs)(hg:Fit xs)(hcap:xs.length≤cap)(hnN:N<n):
  Calls Tryz.prog 101 #[.agg #[.int .i64 N,.slice ao xs.length cap],.int .i64 n] w fun e w'=>e=.returned (.int .i64 (onesI N xs n))∧Below w.heap.size w w':=by
 have K:∀o,Wd (w.alloc o) ao xs:=fun o=>hx.keep (below_alloc w o);have hM:min n N=N:=by omega
 cases hk:chk N xs with
 | false=>
  have R:Hid (0=onesI N xs n):=by unfold onesI Hid;rw[hk];rfl
  clear hM;go_enter Tryz.func101,Tryz.ntmps101;go_wp2_with (go_at_call 92;refine(check_c _ _ _ _ _ (K _)).mono ?_;rintro e w' ⟨rfl,hb⟩;obtain⟨c0,c1,hz,hw⟩:=box_cells hb;clear hb);go_ret
  exact⟨ret_int R.out,by assumption⟩
 | true=>
  obtain⟨hc0,hc1,hc2,_⟩:=chk_out N xs hk;by_cases hm:N≤0
  ·have R:Hid (0=onesI N xs n):=by unfold onesI Hid;rw[hk,hM,show(N).toNat=0 by omega];rfl
   clear hM;go_enter Tryz.func101,Tryz.ntmps101;go_wp2_with (go_at_call 92;refine(check_c _ _ _ _ _ (K _)).mono ?_;rintro e w' ⟨rfl,hb⟩;obtain⟨c0,c1,hz,hw⟩:=box_cells hb;clear hb);go_ret
   exact⟨ret_int R.out,by assumption⟩
  ·obtain⟨m,rfl⟩:=Int.eq_ofNat_of_zero_le (show 0≤N by omega);obtain⟨b,off,rfl,hb,hc⟩:=hx (by omega);have R:Hid (((cntB xs m:Nat):Int)=onesI (m:Int) xs n):=by unfold onesI Hid;rw[hk,hM];rfl
   have HC:Hid (∀i,i<xs.length→w.cell? ⟨b,off+i,none⟩=some (.int .u64 (gt xs i))):=hc;have hl1:m/64≤xs.length:=by omega
   have hm0:decide (m=0)=false:=by simp;omega
   have hm1:(m==0)=false:=by simp;omega
   have hl2:m/64≤cap:=by omega
   have hl3:m≤1048576:=by omega
   have HL:Hid (m%64=0∨m/64<xs.length):=by unfold Hid;omega
   have hl5:(m:Int)/64≤(cap:Int):=by omega
   clear hM hc hc2;go_enter Tryz.func101,Tryz.ntmps101;go_wp2_with (go_at_call 92;refine(check_c _ _ _ _ _ (K _)).mono ?_;rintro e w' ⟨rfl,hb⟩;obtain⟨c0,c1,hz,hw⟩:=box_cells hb;clear hb)
   go_loop [5,26] (fun c i=>∃k t:Nat,k≤m/64∧t≤64*k∧i=.int .i64 k∧c=.int .i64 t∧Hid (t=cntB xs (64*k))) (fun _ i=>m/64-(intOf i).toNat)
   case atStart=>exact⟨0,0,by omega,by omega,rfl,rfl,rfl⟩
   case round=>
    obtain⟨k,t,hk1,ht,rfl,rfl,H⟩:=hrel;by_cases hlt:k<m/64
    ·have hck:=(hw.cell (p:=⟨b,off+k,none⟩) (by assumption)).trans (HC.out k (by omega));have hf:=hg k;have hp:=pop_bounds (gt xs k)
     go_wp2_with (go_at_call 153;refine(pop_c _ ?_ ?_ _).mono ?_;exact Int.natCast_nonneg _;exact Int.ofNat_lt.2 hf;rintro e w' ⟨rfl,rfl⟩);go_round
     case rel=>
      refine⟨k+1,t+cnt (gt xs k) 64,by omega,?_,by go_num,?_,?_⟩
      ·have:=cnt_le (gt xs k) 64;omega
      ·unfold popI;rw[Int.toNat_natCast];go_num
      ·have e:=cntB_word xs k 64 (by omega);rw[show 64*(k+1)=64*k+64 by omega,e,←H.out];rfl
     case measure=>simp only[intOf];omega
    ·have hkm:k=m/64:=by omega
     have HT:Hid (t=cntB xs (64*(m/64))):=by rw[←hkm];exact H.out
     clear H;by_cases hz0:m%64=0
     ·have R2:Hid ((t:Int)=onesI (m:Int) xs n):=by
       unfold Hid;rw[←R.out,HT.out,show 64*(m/64)=m by omega]
      have hz1:¬0<(m:Int)%64:=by omega
      clear hkm;go_wp2;go_ret;exact⟨ret_int R2.out,by assumption⟩
     ·have hz1:0<(m:Int)%64:=by omega
      have hl6:m/64<xs.length:=by have:=HL.out;omega
      have hl7:(m:Int)/64<(xs.length:Int):=by omega
      have hck:=(hw.cell (p:=⟨b,off+m/64,none⟩) (by assumption)).trans (HC.out (m/64) hl6);have hf:=hg (m/64);have hp:=rank_bounds (gt xs (m/64)) ((m:Int)%64)
      have R2:Hid ((t:Int)+rankI (gt xs (m/64)) ((m:Int)%64)=onesI (m:Int) xs n):=by
       unfold Hid;rw[←R.out,HT.out];have e:=cntB_word xs (m/64) (m%64) (by omega);rw[show 64*(m/64)+m%64=m by omega]at e;rw[e];unfold rankI
       rw[Int.toNat_natCast,show min ((m:Int)%64).toNat 64=m%64 by omega];omega
      clear hkm;go_wp2_with (go_at_call 160;refine(rank_c _ _ ?_ ?_ _).mono ?_;exact Int.natCast_nonneg _;exact Int.ofNat_lt.2 hf;rintro e w' ⟨rfl,rfl⟩);go_ret;exact⟨ret_int R2.out,by assumption⟩
theorem bones_c(N:Int)(ao:Option Addr)(xs:List Nat)(cap:Nat)(n:Int)(w:World)(hx:Wd w ao xs)(hg:Fit xs)(hcap:xs.length≤cap):
  Calls Tryz.prog 101 #[.agg #[.int .i64 N,.slice ao xs.length cap],.int .i64 n] w fun e w'=>e=.returned (.int .i64 (onesI N xs n))∧Below w.heap.size w w':=by
 by_cases h:n≤N
 ·exact bones_lo N ao xs cap n w hx hg hcap h
 ·exact bones_hi N ao xs cap n w hx hg hcap (by omega)
theorem gfits_bad(N M k V LM H:Int)(ao:Option Addr)(xs:List Nat)(cap:Nat)(qo:Option Addr)(ys:List Nat)(dap:Nat)(w:World)(hx:Wd w ao xs)(fx:Fit xs)(hy:Wd w qo ys)(fy:Fit ys)(xl:xs.length≤cap)(yl:ys.length≤dap)(h:¬((0≤M∧M≤N∧N≤1048576)∧ichk k V LM xs=true∧chk H ys=true)):
  Calls Tryz.prog 145 #[.agg #[.int .i64 N,.int .i64 M,.int .i64 k,.int .i64 V,.int .i64 LM,.slice ao xs.length cap,.int .i64 H,.slice qo ys.length dap]] w fun e w'=>e=.returned (.bool false)∧Below w.heap.size w w':=by
 have C1:Hid (∀w0,Below w.heap.size w w0→Calls Tryz.prog 187 #[.agg #[.int .i64 k,.int .i64 V,.int .i64 LM,.slice ao xs.length cap]] w0 fun e w'=>e=.returned (.bool (ichk k V LM xs))∧Below w0.heap.size w0 w'):=fun w0 hb=>icheck_c k V LM ao xs cap w0 (hx.keep hb)
 have C2:Hid (∀w0,Below w.heap.size w w0→Calls Tryz.prog 92 #[.agg #[.int .i64 H,.slice qo ys.length dap]] w0 fun e w'=>e=.returned (.bool (chk H ys))∧Below w0.heap.size w0 w'):=fun w0 hb=>check_c H qo ys dap w0 (hy.keep hb)
 obtain⟨W,hW⟩:∃W,W=w.alloc (.cells #[.int .i64 N,.int .i64 M,.int .i64 k,.int .i64 V,.int .i64 LM,.slice ao xs.length cap,.int .i64 H,.slice qo ys.length dap] 43):=⟨_,rfl⟩;have bW:=yb1 hW;have B1:=yc1 hW
 clear hx hy fx fy;by_cases m0:M<0
 ·clear C1 C2 h;go_enter Tryz.func145,Tryz.ntmps145;go_wp2;go_ret;rw[←hW];exact⟨rfl,bW⟩
 by_cases m1:N<M
 ·clear C1 C2 h;go_enter Tryz.func145,Tryz.ntmps145;go_wp2;go_ret;rw[←hW];exact⟨rfl,bW⟩
 by_cases n1:1048576<N
 ·clear C1 C2 h;go_enter Tryz.func145,Tryz.ntmps145;go_wp2;go_ret;rw[←hW];exact⟨rfl,bW⟩
 cases hk:ichk k V LM xs with
 | false=>
  rw[hk]at C1;clear C2 h hk;go_enter Tryz.func145,Tryz.ntmps145;go_wp2_with fail;rw[←hW];refine(C1.out _ bW).mono ?_;rintro e w1 ⟨rfl,hb⟩;have bw1:=bW.trans (hb.mono bW.size);clear hW hb;go_wp2;go_ret;exact⟨rfl,bw1⟩
 | true=>
  have hc:chk H ys=false:=by
   cases hc:chk H ys with
   | false=>rfl
   | true=>exact absurd ⟨by omega,hk,hc⟩ h
  rw[hk]at C1;rw[hc]at C2;clear h hk hc;go_enter Tryz.func145,Tryz.ntmps145;go_wp2_with fail;rw[←hW];refine(C1.out _ bW).mono ?_;rintro e w1 ⟨rfl,hb⟩;have bw1:=bW.trans (hb.mono bW.size);replace B1:=B1.kept hb
  have q6:=B1.cell 6 rfl;have q7:=B1.cell 7 rfl;clear hW hb;go_wp2_with fail;refine(C2.out _ bw1).mono ?_;rintro e w2 ⟨rfl,hb⟩;have bw2:=bw1.trans (hb.mono bw1.size);clear hb;go_wp2;go_ret;exact⟨rfl,bw2⟩
theorem gfits_on(n mm:Nat)(k V LM H:Int)(ao:Option Addr)(xs:List Nat)(cap:Nat)(qo:Option Addr)(ys:List Nat)(dap:Nat)(w:World)(hx:Wd w ao xs)(fx:Fit xs)(hy:Wd w qo ys)(fy:Fit ys)(xl:xs.length≤cap)(yl:ys.length≤dap)(hn:n≤1048576)(hm:mm≤n)(ik:ichk k V LM xs=true)(ck:chk H ys=true)(B:Bool)(hB:B=true↔(k=(loN n mm:Int)∧V=(max (wdF n mm) 1:Nat)∧H=((mm+n/2^wdF n mm+1:Nat):Int)∧onesI H ys H=(mm:Int))):
  Calls Tryz.prog 145 #[.agg #[.int .i64 (n:Nat),.int .i64 (mm:Nat),.int .i64 k,.int .i64 V,.int .i64 LM,.slice ao xs.length cap,.int .i64 H,.slice qo ys.length dap]] w fun e w'=>e=.returned (.bool B)∧Below w.heap.size w w':=by
 have C1:Hid (∀w0,Below w.heap.size w w0→Calls Tryz.prog 187 #[.agg #[.int .i64 k,.int .i64 V,.int .i64 LM,.slice ao xs.length cap]] w0 fun e w'=>e=.returned (.bool true)∧Below w0.heap.size w0 w'):=fun w0 hb=>by
  have:=icheck_c k V LM ao xs cap w0 (hx.keep hb);rw[ik]at this;exact this
 have C2:Hid (∀w0,Below w.heap.size w w0→Calls Tryz.prog 92 #[.agg #[.int .i64 H,.slice qo ys.length dap]] w0 fun e w'=>e=.returned (.bool true)∧Below w0.heap.size w0 w'):=fun w0 hb=>by
  have:=check_c H qo ys dap w0 (hy.keep hb);rw[ck]at this;exact this
 have C3:Hid (∀w0,Calls Tryz.prog 161 #[.int .i64 n,.int .i64 mm] w0 fun e w'=>e=.returned (.tuple #[.int .i64 (loN n mm),.int .i64 (max (wdF n mm) 1:Nat)])∧w'=w0):=fun w0=>glowSize_c n mm hn hm w0
 have C4:Hid (∀w0,Calls Tryz.prog 164 #[.int .i64 n,.int .i64 mm] w0 fun e w'=>e=.returned (.int .i64 ((mm+n/2^wdF n mm+1:Nat):Int))∧w'=w0):=fun w0=>ghighSize_c n mm hn hm w0
 have C5:Hid (∀w0,Below w.heap.size w w0→Calls Tryz.prog 101 #[.agg #[.int .i64 H,.slice qo ys.length dap],.int .i64 H] w0 fun e w'=>e=.returned (.int .i64 (onesI H ys H))∧Below w0.heap.size w0 w'):=fun w0 hb=>bones_c H qo ys dap H w0 (hy.keep hb) fy yl
 have HB:=hide9' hB;obtain⟨W,hW⟩:∃W,W=w.alloc (.cells #[.int .i64 (n:Nat),.int .i64 (mm:Nat),.int .i64 k,.int .i64 V,.int .i64 LM,.slice ao xs.length cap,.int .i64 H,.slice qo ys.length dap] 43):=⟨_,rfl⟩
 have bW:=yb1 hW;have B1:=yc1 hW;have i2:¬(1048576:Int)<(n:Int):=by omega
 have i4:¬(mm:Int)<0:=by omega
 have i5:¬(n:Int)<(mm:Int):=by omega
 clear hx hy fx fy ik ck hB;generalize loN n mm=a1 at *;generalize max (wdF n mm) 1=a2 at *;generalize mm+n/2^wdF n mm+1=a3 at *;generalize onesI H ys H=a4 at *;go_enter Tryz.func145,Tryz.ntmps145;go_wp2_with fail
 rw[←hW];refine(C1.out _ bW).mono ?_;rintro e w1 ⟨rfl,hb⟩;have bw1:=bW.trans (hb.mono bW.size);replace B1:=B1.kept hb;have q6:=B1.cell 6 rfl;have q7:=B1.cell 7 rfl;clear hW hb bW C1;go_wp2_with fail
 refine(C2.out _ bw1).mono ?_;rintro e w2 ⟨rfl,hb⟩;have bw2:=bw1.trans (hb.mono bw1.size);replace B1:=B1.kept hb;clear hb bw1 C2 q6 q7;have q0:=B1.cell 0 rfl;have q1:=B1.cell 1 rfl;go_wp2_with fail
 refine(C3.out _).mono ?_;rintro e w3 ⟨rfl,h3⟩;rw[h3];clear h3 C3 q0 q1;go_wp2_with fail
 refine region_g [] (fun w0=>Cel w0 w.heap.size [.int .i64 (n:Nat),.int .i64 (mm:Nat),.int .i64 k,.int .i64 V,.int .i64 LM,.slice ao xs.length cap,.int .i64 H,.slice qo ys.length dap] 43) (by kernel_rfl) ?_
 have hS:=B1.drew;by_cases e1:k=(a1:Int)
 ·have e1b:(k==(a1:Int))=true:=by simp[e1]
  by_cases e2:V=(a2:Int)
  ·have e2b:(V==(a2:Int))=true:=by simp[e2]
   by_cases e3:H=(a3:Int)
   ·have e3b:(H==(a3:Int))=true:=by simp[e3]
    have HE:Hid (B=(a4==(mm:Int))):=by show B=_;rw[Bool.eq_iff_iff,HB.out];simp[e1,e2,e3]
    clear e1 e2 e3 HB;refine AnyG.tk 0 hS ?_;refine AnyG.tk 1 hS ?_;refine AnyG.tf 2 hS rfl (fun w0 h0=>by have:=h0.cell 2 rfl;go_simp;try with_reducible rfl) ?_;refine AnyG.tk 3 hS ?_;refine AnyG.tk 4 hS ?_
    refine AnyG.tk 5 hS ?_;refine AnyG.tk 6 hS ?_;refine AnyG.tk 7 hS ?_;refine AnyG.tf 8 hS rfl (fun w0 h0=>by have:=h0.cell 3 rfl;go_simp;try with_reducible rfl) ?_;refine AnyG.tk 9 hS ?_;refine AnyG.tk 10 hS ?_
    refine AnyG.tk 11 hS ?_;refine AnyG.tk 12 hS ?_;refine AnyG.tk 13 hS ?_;refine AnyG.tk 14 hS ?_;refine AnyG.tf 15 hS rfl (fun w0 h0=>by have:=h0.cell 6 rfl;go_simp;try with_reducible rfl) ?_;refine AnyG.tk 16 hS ?_
    refine AnyG.tf 17 hS rfl (fun w0 h0=>by have:=h0.cell 0 rfl;go_simp;try with_reducible rfl) ?_;refine AnyG.tk 18 hS ?_
    refine AnyG.tf 19 hS rfl (fun w0 h0=>by have:=h0.cell 1 rfl;go_simp;try with_reducible rfl) ?_;refine AnyG.o1 20 ?_;intro K hK;go_simp;refine(C4.out _).mono ?_;rintro e w4 ⟨rfl,h4⟩;rw[h4];clear h4
    refine hK.out _ _ (fun _=>hS) ?_;clear hK K;try simp only[Act.put,yq0,yq1,yq2,yq3,yq4,yq5]
    refine AnyG.tk 21 hS ?_;refine AnyG.tk 22 hS ?_;refine AnyG.tk 23 hS ?_;refine AnyG.tk 24 hS ?_;refine AnyG.tf 25 hS rfl (fun w0 h0=>by have:=h0.cell 6 rfl;have:=h0.cell 7 rfl;go_simp;try with_reducible rfl) ?_
    refine AnyG.tk 26 hS ?_;refine AnyG.tk 27 hS ?_;refine AnyG.tf 28 hS rfl (fun w0 h0=>by have:=h0.cell 6 rfl;go_simp;try with_reducible rfl) ?_;refine AnyG.tk 30 hS ?_
    refine AnyG.tf 31 hS rfl (fun w0 h0=>by have:=h0.cell 1 rfl;go_simp;try with_reducible rfl) ?_;refine AnyG.o1 29 ?_;intro K hK;go_simp;refine(C5.out _ bw2.drew).mono ?_;rintro e w5 ⟨rfl,hb⟩
    have bw5:=bw2.drew.trans (hb.mono bw2.drew.size);have hS5:=hS.kept hb;clear hb;refine hK.out _ _ (fun _=>hS5) ?_;clear hK K;try simp only[Act.put,yq0,yq1,yq2,yq3,yq4,yq5]
    refine AnyG.tk 32 hS5 ?_;refine AnyG.tk 33 hS5 ?_;refine AnyG.tk 34 hS5 ?_;refine AnyG.done (by kernel_rfl) ?_ _;go_wp2;go_ret;rw[HE.out];exact⟨rfl,bw5⟩
   ·have e3b:(H==(a3:Int))=false:=by simp[e3]
    obtain rfl:B=false:=Bool.eq_false_iff.2 fun h=>by have:=HB.out.1 h;omega
    clear e3 HB;refine AnyG.tk 0 hS ?_;refine AnyG.tk 1 hS ?_;refine AnyG.tf 2 hS rfl (fun w0 h0=>by have:=h0.cell 2 rfl;go_simp;try with_reducible rfl) ?_;refine AnyG.tk 3 hS ?_;refine AnyG.tk 4 hS ?_
    refine AnyG.tk 5 hS ?_;refine AnyG.tk 6 hS ?_;refine AnyG.tk 7 hS ?_;refine AnyG.tf 8 hS rfl (fun w0 h0=>by have:=h0.cell 3 rfl;go_simp;try with_reducible rfl) ?_;refine AnyG.tk 9 hS ?_;refine AnyG.tk 10 hS ?_
    refine AnyG.tk 11 hS ?_;refine AnyG.tk 12 hS ?_;refine AnyG.tk 13 hS ?_;refine AnyG.tk 14 hS ?_;refine AnyG.tf 15 hS rfl (fun w0 h0=>by have:=h0.cell 6 rfl;go_simp;try with_reducible rfl) ?_;refine AnyG.tk 16 hS ?_
    refine AnyG.tf 17 hS rfl (fun w0 h0=>by have:=h0.cell 0 rfl;go_simp;try with_reducible rfl) ?_;refine AnyG.tk 18 hS ?_
    refine AnyG.tf 19 hS rfl (fun w0 h0=>by have:=h0.cell 1 rfl;go_simp;try with_reducible rfl) ?_;refine AnyG.o1 20 ?_;intro K hK;go_simp;refine(C4.out _).mono ?_;rintro e w4 ⟨rfl,h4⟩;rw[h4];clear h4
    refine hK.out _ _ (fun _=>hS) ?_;clear hK K;try simp only[Act.put,yq0,yq1,yq2,yq3,yq4,yq5]
    refine AnyG.tk 21 hS ?_;refine AnyG.tk 22 hS ?_;refine AnyG.tk 23 hS ?_;refine AnyG.sk 24 hS ?_;refine AnyG.sk 25 hS ?_;refine AnyG.sk 26 hS ?_;refine AnyG.sk 27 hS ?_;refine AnyG.sk 28 hS ?_;refine AnyG.sk 29 hS ?_
    refine AnyG.sk 30 hS ?_;refine AnyG.sk 31 hS ?_;refine AnyG.sk 32 hS ?_;refine AnyG.tk 33 hS ?_;refine AnyG.tk 34 hS ?_;refine AnyG.done (by kernel_rfl) ?_ _;go_wp2;go_ret;exact⟨rfl,bw2.drew⟩
  ·have e2b:(V==(a2:Int))=false:=by simp[e2]
   obtain rfl:B=false:=Bool.eq_false_iff.2 fun h=>by have:=HB.out.1 h;omega
   clear e2 HB;refine AnyG.tk 0 hS ?_;refine AnyG.tk 1 hS ?_;refine AnyG.tf 2 hS rfl (fun w0 h0=>by have:=h0.cell 2 rfl;go_simp;try with_reducible rfl) ?_;refine AnyG.tk 3 hS ?_;refine AnyG.tk 4 hS ?_
   refine AnyG.tk 5 hS ?_;refine AnyG.tk 6 hS ?_;refine AnyG.tk 7 hS ?_;refine AnyG.tf 8 hS rfl (fun w0 h0=>by have:=h0.cell 3 rfl;go_simp;try with_reducible rfl) ?_;refine AnyG.tk 9 hS ?_;refine AnyG.tk 10 hS ?_
   refine AnyG.tk 11 hS ?_;refine AnyG.tk 12 hS ?_;refine AnyG.sk 13 hS ?_;refine AnyG.sk 14 hS ?_;refine AnyG.sk 15 hS ?_;refine AnyG.sk 16 hS ?_;refine AnyG.sk 17 hS ?_;refine AnyG.sk 18 hS ?_;refine AnyG.sk 19 hS ?_
   refine AnyG.sk 20 hS ?_;refine AnyG.sk 21 hS ?_;refine AnyG.tk 22 hS ?_;refine AnyG.tk 23 hS ?_;refine AnyG.sk 24 hS ?_;refine AnyG.sk 25 hS ?_;refine AnyG.sk 26 hS ?_;refine AnyG.sk 27 hS ?_;refine AnyG.sk 28 hS ?_
   refine AnyG.sk 29 hS ?_;refine AnyG.sk 30 hS ?_;refine AnyG.sk 31 hS ?_;refine AnyG.sk 32 hS ?_;refine AnyG.tk 33 hS ?_;refine AnyG.tk 34 hS ?_;refine AnyG.done (by kernel_rfl) ?_ _;go_wp2;go_ret;exact⟨rfl,bw2.drew⟩
 ·have e1b:(k==(a1:Int))=false:=by simp[e1]
  obtain rfl:B=false:=Bool.eq_false_iff.2 fun h=>by have:=HB.out.1 h;omega
  clear e1 HB;refine AnyG.tk 0 hS ?_;refine AnyG.tk 1 hS ?_;refine AnyG.tf 2 hS rfl (fun w0 h0=>by have:=h0.cell 2 rfl;go_simp;try with_reducible rfl) ?_;refine AnyG.tk 3 hS ?_;refine AnyG.tk 4 hS ?_;refine AnyG.tk 5 hS ?_
  refine AnyG.sk 6 hS ?_;refine AnyG.sk 7 hS ?_;refine AnyG.sk 8 hS ?_;refine AnyG.sk 9 hS ?_;refine AnyG.sk 10 hS ?_;refine AnyG.tk 11 hS ?_;refine AnyG.tk 12 hS ?_;refine AnyG.sk 13 hS ?_;refine AnyG.sk 14 hS ?_
  refine AnyG.sk 15 hS ?_;refine AnyG.sk 16 hS ?_;refine AnyG.sk 17 hS ?_;refine AnyG.sk 18 hS ?_;refine AnyG.sk 19 hS ?_;refine AnyG.sk 20 hS ?_;refine AnyG.sk 21 hS ?_;refine AnyG.tk 22 hS ?_;refine AnyG.tk 23 hS ?_
  refine AnyG.sk 24 hS ?_;refine AnyG.sk 25 hS ?_;refine AnyG.sk 26 hS ?_;refine AnyG.sk 27 hS ?_;refine AnyG.sk 28 hS ?_;refine AnyG.sk 29 hS ?_;refine AnyG.sk 30 hS ?_;refine AnyG.sk 31 hS ?_;refine AnyG.sk 32 hS ?_
  refine AnyG.tk 33 hS ?_;refine AnyG.tk 34 hS ?_;refine AnyG.done (by kernel_rfl) ?_ _;go_wp2;go_ret;exact⟨rfl,bw2.drew⟩
end Go.Proofs.YtfnkklkdajlhlaaGreatDoor
namespace Go.Proofs.YtfnkklkdajlhlaaGreatDoor
open Go.RowKit Go.Shelf Num Bit
attribute [local go_sem] Oper.semAt_some
def nx(p:Nat→Nat)(q:Nat):Nat:=if q=0 then 0 else p (q-1)+1
theorem nx_succ(p:Nat→Nat)(q:Nat):nx p (q+1)=p q+1:=rfl
theorem plq_le(n mm:Nat)(xs:List Nat)(hh:Nat)(ys:List Nat)(q:Nat)(hn:n≤1048576)(hy:hh≤1048576)(hq:q<(plc (bitAt ys) hh).length):plq n mm xs hh ys q≤2199023255552:=by
 have h20:=wdF_le n mm (by omega);have p20:2^wdF n mm≤1048576:=Nat.pow_le_pow_right (show 0<2 by decide) h20;have hl:numAt (wdF n mm) xs q<2^wdF n mm:=numOf_lt _ _;have h1:=(plc_rise (bitAt ys) hh).1 q hq
 have h2:(gt (plc (bitAt ys) hh) q-q)*2^wdF n mm≤1048576*1048576:=Nat.mul_le_mul (by omega) p20;have h3:1048576*1048576=1099511627776:=by decide
 unfold plq;omega
theorem gcheck_fits(n mm kn vn hh:Nat)(LM:Int)(ao:Option Addr)(xs:List Nat)(cap:Nat)(qo:Option Addr)(ys:List Nat)(dap:Nat)(w:World)(F:Fits n mm kn vn LM xs hh ys)(hx:Wd w ao xs)(fx:Fit xs)(hy:Wd w qo ys)(fy:Fit ys)(FC:Hid (∀w0,Below w.heap.size w w0→Calls Tryz.prog 145 #[.agg #[.int .i64 (n:Nat),.int .i64 (mm:Nat),.int .i64 (kn:Nat),.int .i64 (vn:Nat),.int .i64 LM,.slice ao xs.length cap,.int .i64 (hh:Nat),.slice qo ys.length dap]] w0 fun e w'=>e=.returned (.bool true)∧Below w0.heap.size w0 w'))(B:Bool)(hB:B=true↔Good n mm (plq n mm xs hh ys)):
  Calls Tryz.prog 86 #[.agg #[.int .i64 (n:Nat),.int .i64 (mm:Nat),.int .i64 (kn:Nat),.int .i64 (vn:Nat),.int .i64 LM,.slice ao xs.length cap,.int .i64 (hh:Nat),.slice qo ys.length dap]] w fun e w'=>e=.returned (.bool B)∧Below w.heap.size w w':=by
 have nl:=F.hn;have hb20:=(chk_out _ _ F.ck).2.1;have PL:Hid (∀q,q<mm→plq n mm xs hh ys q≤2199023255552):=fun q hq=>plq_le n mm xs hh ys q nl (by omega) (by rw[F.on];exact hq);have HB:=hide9' hB;clear hB
 refine(callsIn_wide (n:=0)).1 (callsIn_of_wp_marks Tryz.func86 rfl trivial ?_)
 simp only[Tryz.ntmps86,List.size_toArray,List.length_cons,List.length_nil,Nat.reduceAdd,Nat.reduceSub,Array.replicate_succ,Array.replicate_zero,List.push_toArray,List.append_toArray,List.nil_append,List.cons_append]
 refine wpIn_wide.2 ?_
 have PC:Hid (∀w0,Calls Tryz.prog 146 #[.agg #[.int .i64 (n:Nat),.int .i64 (mm:Nat),.int .i64 (kn:Nat),.int .i64 (vn:Nat),.int .i64 LM,.slice ao xs.length cap,.int .i64 (hh:Nat),.slice qo ys.length dap]] w0 fun e w'=>e=.returned (.func (.func 189) #[] #[.pointer (some ⟨w0.heap.size,0,none⟩),.pointer (some ⟨w0.heap.size+1,0,none⟩)])∧Cel w' w0.heap.size [.int .i64 (n:Nat),.int .i64 (mm:Nat),.int .i64 (kn:Nat),.int .i64 (vn:Nat),.int .i64 LM,.slice ao xs.length cap,.int .i64 (hh:Nat),.slice qo ys.length dap] 43∧Cel w' (w0.heap.size+1) [.int .i64 (wdF n mm:Nat)] 3∧w'.heap.size=w0.heap.size+2∧Below w0.heap.size w0 w'):=fun w0=>gplaces_c n mm kn vn hh LM ao xs cap qo ys dap F.hn F.hm w0
 obtain⟨W1,hW1⟩:∃W1,W1=(w.alloc (.cells #[.int .i64 (n:Nat),.int .i64 (mm:Nat),.int .i64 (kn:Nat),.int .i64 (vn:Nat),.int .i64 LM,.slice ao xs.length cap,.int .i64 (hh:Nat),.slice qo ys.length dap] 43)).alloc (.cells #[.bool false] 4):=⟨_,rfl⟩
 have b1:Below w.heap.size w W1:=by rw[hW1];exact((below_alloc w _).alloc (by simp only[World.size_alloc];omega) _)
 have z1:W1.heap.size=w.heap.size+2:=by rw[hW1];simp
 have c0:Cel W1 w.heap.size [.int .i64 (n:Nat),.int .i64 (mm:Nat),.int .i64 (kn:Nat),.int .i64 (vn:Nat),.int .i64 LM,.slice ao xs.length cap,.int .i64 (hh:Nat),.slice qo ys.length dap] 43:=by rw[hW1];exact(Cel.new w _ _).alloc _
 have c1:Cel W1 (w.heap.size+1) [.bool false] 4:=by rw[hW1];exact Cel.new2 w _ _ _
 go_wp2_with fail;rw[←hW1];clear hW1;refine(FC.out _ b1).mono ?_;rintro e wf ⟨rfl,hb⟩;replace b1:=b1.trans (hb.mono b1.size);replace c0:=c0.kept hb;replace c1:=c1.kept hb
 have zf:w.heap.size+2≤wf.heap.size:=by have:=hb.size;omega
 clear hb FC z1;obtain⟨g1,hg1⟩:∃g,g=wf.heap.size:=⟨_,rfl⟩;obtain⟨W2,hW2⟩:∃W2,W2=wf.alloc (.cells #[.int .i64 0] 3):=⟨_,rfl⟩;have bA:Below wf.heap.size wf W2:=by rw[hW2];exact below_alloc wf _
 have z2:W2.heap.size=g1+1:=by rw[hW2,hg1];simp
 have c2:Cel W2 g1 [.int .i64 0] 3:=by rw[hW2,hg1];exact Cel.new wf _ _
 have d0:Cel (wf.alloc (.cells #[.int .i64 0] 3)) w.heap.size [.int .i64 (n:Nat),.int .i64 (mm:Nat),.int .i64 (kn:Nat),.int .i64 (vn:Nat),.int .i64 LM,.slice ao xs.length cap,.int .i64 (hh:Nat),.slice qo ys.length dap] 43:=c0.alloc _
 have q0:=d0.cell 0 rfl;have q1:=d0.cell 1 rfl;have q2:=d0.cell 2 rfl;have q3:=d0.cell 3 rfl;have q4:=d0.cell 4 rfl;have q5:=d0.cell 5 rfl;have q6:=d0.cell 6 rfl;have q7:=d0.cell 7 rfl;have HG:=hide9' hg1
 clear hg1;have HW2:=hide9' hW2;clear hW2;go_wp2_with fail;rw[←HW2.out];refine(PC.out _).mono ?_;rintro e w' ⟨rfl,cx,cw,z3,b3⟩;rw[z2]at cx cw z3 b3;rw[z2,←HG.out];rw[←HG.out]at zf
 have b4:Below w.heap.size w w':=(b1.trans (bA.mono b1.size)).trans (b3.mono (by omega));replace c0:=(c0.kept bA).keep b3 (by omega);replace c1:=(c1.kept bA).keep b3 (by omega);replace c2:=c2.keep b3 (by omega)
 clear b1 bA b3 PC HW2 d0 q0 q1 q2 q3 q4 q5 q6 q7;go_wp2
 have G:=(places1_goes n mm kn vn hh LM ao xs cap qo ys dap (fun b=>(b≠w.heap.size+1∧b≠g1)∧b≠w'.heap.size+1) w' (g1+1) (g1+1+1) F (hx.keep b4) fx (hy.keep b4) fy cx cw (by omega) (by omega) (fun p hp h0=>by have:=hx.blk hp h0;omega) (fun p hp h0=>by have:=hy.blk hp h0;omega))
 generalize plq n mm xs hh ys=p at *
 refine range_law (gf:=189) (lb:=#[.pointer (some ⟨g1+1,0,none⟩),.pointer (some ⟨g1+2,0,none⟩)]) (K:=fun b=>b≠w.heap.size+1∧b≠g1) rfl (enters_of Tryz.func189 (by kernel_rfl) rfl) (fun _=>rfl) G (fun b hb=>by omega)
  (fun q Wc=>Kept (fun b=>b≠w.heap.size+1∧b≠g1) w' Wc∧Cel Wc (w.heap.size+1) [.bool false] 4∧Cel Wc g1 [.int .i64 (nx p q:Nat)] 3∧∀j,j<q→p j<n∧(0<j→p (j-1)<p j)) (fun q Wc=>Kept (fun b=>b≠w.heap.size+1∧b≠g1) w' Wc∧Cel Wc (w.heap.size+1) [.bool false] 4∧¬Good n mm p) (fun q A B h hb=>⟨h.1.more hb (Nat.le_refl _),h.2.1.keep hb (by omega),h.2.2.1.keep hb (by omega),h.2.2.2⟩) (fun q A B h hb=>⟨h.1.more hb (Nat.le_refl _),h.2.1.keep hb (by omega),h.2.2⟩) ⟨Kept.refl _ _,c1,c2,fun j hj=>absurd hj (by omega)⟩
  (fun q=>{ tmps:=#[.agg #[.int .i64 (n:Nat),.int .i64 (mm:Nat),.int .i64 (kn:Nat),.int .i64 (vn:Nat),.int .i64 LM,.slice ao xs.length cap,.int .i64 (hh:Nat),.slice qo ys.length dap],.pointer (some ⟨w.heap.size,0,none⟩),.pointer (some ⟨w.heap.size+1,0,none⟩),.pointer (some ⟨g1,0,none⟩),undef,.int .i64 (p q:Nat),.agg #[.int .i64 (n:Nat),.int .i64 (mm:Nat),.int .i64 (kn:Nat),.int .i64 (vn:Nat),.int .i64 LM,.slice ao xs.length cap,.int .i64 (hh:Nat),.slice qo ys.length dap],.bool true,.bool false,.agg #[.int .i64 (n:Nat),.int .i64 (mm:Nat),.int .i64 (kn:Nat),.int .i64 (vn:Nat),.int .i64 LM,.slice ao xs.length cap,.int .i64 (hh:Nat),.slice qo ys.length dap],.func (.func 189) #[] #[.pointer (some ⟨g1+1,0,none⟩),.pointer (some ⟨g1+2,0,none⟩)],.int .i64 (q:Nat),.int .i64 (p q:Nat),undef,undef,undef,undef,undef,undef,undef,undef,undef,undef,undef],defers:=[] }) ?assign ?body ?done ?stop
 case assign=>
  intro l1 q Wc K1 hK1;gi_wp2;exact hK1
 case body=>
  rintro l1 q Wc hq ⟨hk,cR,cN,hlt⟩ hz;have m0:=(hk.cel c0 (by omega)).cell 0 rfl;have r0:=cR.cell 0 rfl;have r1:=cR.frozen 0;have s0:=cN.cell 0 rfl;have s1:=cN.frozen 0;have pq:=PL.out q hq
  have NS:=hide9' (nx_succ p q)
  have NG:Hid (p q<nx p q∨n≤p q→¬Good n mm p):=fun h hG=>by
   obtain⟨g1,g2⟩:=hG q hq;unfold nx at h;split at h
   ·omega
   ·have:=g2 (by omega);omega
  have NN:Hid (¬(p q<nx p q∨n≤p q)→∀j,j<q+1→p j<n∧(0<j→p (j-1)<p j)):=fun h j hj=>by
   by_cases e:j=q
   ·subst e;unfold nx at h;split at h
    ·exact⟨by omega,fun h0=>by omega⟩
    ·exact⟨by omega,fun h0=>by omega⟩
   ·exact hlt j (by omega)
  have HX:Hid (Kept (fun b=>b≠w.heap.size+1∧b≠g1) Wc (Wc.setCell ⟨w.heap.size+1,0,none⟩ (.bool false))∧Kept (fun b=>b≠w.heap.size+1∧b≠g1) w' (Wc.setCell ⟨w.heap.size+1,0,none⟩ (.bool false))∧Cel (Wc.setCell ⟨w.heap.size+1,0,none⟩ (.bool false)) (w.heap.size+1) [.bool false] 4):=⟨(Kept.refl _ _).setCell (fun h=>h.1 rfl) _,hk.setCell (fun h=>h.1 rfl) _,cR.set 0 _⟩
  have HY:Hid (Kept (fun b=>b≠w.heap.size+1∧b≠g1) Wc (Wc.setCell ⟨g1,0,none⟩ (.int .i64 ((p q:Int)+1)))∧Kept (fun b=>b≠w.heap.size+1∧b≠g1) w' (Wc.setCell ⟨g1,0,none⟩ (.int .i64 ((p q:Int)+1)))∧Cel (Wc.setCell ⟨g1,0,none⟩ (.int .i64 ((p q:Int)+1))) (w.heap.size+1) [.bool false] 4∧Cel (Wc.setCell ⟨g1,0,none⟩ (.int .i64 ((p q:Int)+1))) g1 [.int .i64 (nx p (q+1):Nat)] 3):=⟨(Kept.refl _ _).setCell (fun h=>h.2 rfl) _,hk.setCell (fun h=>h.2 rfl) _,cR.other (show w.heap.size+1≠g1 by omega) _,by rw[NS.out,show((p q+1:Nat):Int)=(p q:Int)+1 by omega];exact cN.set 0 _⟩
  clear G hlt PL;generalize nx p q=a at *;by_cases h1:p q<a
  ·have h12:(p q:Int)<(a:Int):=by omega
   gi_wp2;exact⟨HX.out.1,HX.out.2.1,HX.out.2.2,NG.out (.inl h1)⟩
  ·have h12:¬(p q:Int)<(a:Int):=by omega
   by_cases h2:n≤p q
   ·have h22:(n:Int)≤(p q:Int):=by omega
    gi_wp2;exact⟨HX.out.1,HX.out.2.1,HX.out.2.2,NG.out (.inr h2)⟩
   ·have h22:¬(n:Int)≤(p q:Int):=by omega
    gi_wp2;exact⟨HY.out.1,HY.out.2.1,HY.out.2.2.1,HY.out.2.2.2,NN.out (by omega)⟩
 case done=>
  rintro D Wc hD ⟨hk,cR,cN,hlt⟩ hd;have r0:=cR.cell 0 rfl;have r1:=cR.frozen 0
  have hb:=hide9' (((hk.below (B:=w.heap.size) (fun x h=>by omega) (by omega))).setCell (p:=⟨w.heap.size+1,0,none⟩) (show w.heap.size≤w.heap.size+1 by omega) (.bool true));have cS:=hide9' (cR.set 0 (.bool true))
  have hd2:=hide9' ((Below.heap_setCell Wc ⟨w.heap.size+1,0,none⟩ (.bool true) D (show D≠w.heap.size+1 by omega)).trans hd);obtain rfl:B=true:=HB.out.2 hlt;clear hd hk hlt;go_wp2
  have cR2:=(cS.out.put (.deferred none) (show w.heap.size+1≠D by omega)).cell 0 rfl
  exact marks_ret hd2.out (v:=.bool true) (by simp[results,Tryz.results86,go_sem,cR2]) ⟨rfl,b4.trans (hb.out.trans (below_putObj (by omega) _))⟩
 case stop=>
  rintro D q Wc hD hq ⟨hk,cR,hn⟩ hd;obtain rfl:B=false:=Bool.eq_false_iff.2 fun h=>hn (HB.out.1 h);go_wp2;have cR2:=(cR.put (.deferred none) (show w.heap.size+1≠D by omega)).cell 0 rfl
  exact marks_ret hd (v:=.bool false) (by simp[results,Tryz.results86,go_sem,cR2]) ⟨rfl,b4.trans ((hk.below (fun x h=>by omega) (by omega)).trans (below_putObj (by omega) _))⟩
theorem gcheck_bad(a0 a1 a2 a3 a4 a5 a6 a7:Value)(w:World)(FC:Hid (∀w0,Below w.heap.size w w0→Calls Tryz.prog 145 #[.agg #[a0,a1,a2,a3,a4,a5,a6,a7]] w0 fun e w'=>e=.returned (.bool false)∧Below w0.heap.size w0 w')):
  Calls Tryz.prog 86 #[.agg #[a0,a1,a2,a3,a4,a5,a6,a7]] w fun e w'=>e=.returned (.bool false)∧Below w.heap.size w w':=by
 refine(callsIn_wide (n:=0)).1 (callsIn_of_wp_marks Tryz.func86 rfl trivial ?_)
 simp only[Tryz.ntmps86,List.size_toArray,List.length_cons,List.length_nil,Nat.reduceAdd,Nat.reduceSub,Array.replicate_succ,Array.replicate_zero,List.push_toArray,List.append_toArray,List.nil_append,List.cons_append]
 refine wpIn_wide.2 ?_;obtain⟨W1,hW1⟩:∃W1,W1=(w.alloc (.cells #[a0,a1,a2,a3,a4,a5,a6,a7] 43)).alloc (.cells #[.bool false] 4):=⟨_,rfl⟩
 have b1:Below w.heap.size w W1:=by rw[hW1];exact((below_alloc w _).alloc (by simp only[World.size_alloc];omega) _)
 have c1:Cel W1 (w.heap.size+1) [.bool false] 4:=by rw[hW1];exact Cel.new2 w _ _ _
 go_wp2_with fail;rw[←hW1];clear hW1;refine(FC.out _ b1).mono ?_;rintro e wf ⟨rfl,hb⟩;replace b1:=b1.trans (hb.mono b1.size);replace c1:=c1.kept hb;have r0:=c1.cell 0 rfl;have r1:=c1.frozen 0
 have HZ:=hide9' (And.intro (c1.set 0 (.bool false)) (b1.setCell (p:=⟨w.heap.size+1,0,none⟩) (show w.heap.size≤w.heap.size+1 by omega) (.bool false)));clear hb FC b1;go_wp2;have r2:=HZ.out.1.cell 0 rfl
 exact⟨.bool false,by simp[results,Tryz.results86,go_sem,r2],rfl,HZ.out.2⟩
theorem kOk_nat(a:RA9)(h:kOk9 a=true):∃(n mm kn vn hh:Nat) (LM:Int) (xs ys:List Nat),a=⟨n,mm,kn,vn,LM,xs,hh,ys⟩:=by
 obtain⟨_,e⟩:=kOk_row a h;rw[e];exact⟨_,_,_,_,_,_,_,_,rfl⟩
theorem check_k9(cs:List Value)(a:RA9)(w:World)(h:KI9 w cs a):
  Calls Tryz.prog 86 #[.agg cs.toArray] w fun e w'=>e=.returned (.bool (kOk9 a))∧Below w.heap.size w w':=by
 obtain⟨⟨ao,cap,qo,dap,rfl,ir,a1,a2,a3,a4,a5,a6⟩,n3,xl,yl⟩:=h;obtain⟨N,M,k,V,LM,xs,H,ys⟩:=a;dsimp only at *;by_cases P1:(0≤M∧M≤N∧N≤1048576)∧ichk k V LM xs=true∧chk H ys=true
 ·obtain⟨⟨p1,p2,p3⟩,p4,p5⟩:=P1;obtain⟨v1,v2,v3,v4,v5,v6,v7,v8⟩:=ichk_out _ _ _ _ p4;obtain⟨u1,u2,u3,u4⟩:=chk_out _ _ p5;obtain⟨n,rfl⟩:=Int.eq_ofNat_of_zero_le (show 0≤N by omega)
  obtain⟨mm,rfl⟩:=Int.eq_ofNat_of_zero_le p1;obtain⟨kn,rfl⟩:=Int.eq_ofNat_of_zero_le v3;obtain⟨vn,rfl⟩:=Int.eq_ofNat_of_zero_le (show 0≤V by omega);obtain⟨hh,rfl⟩:=Int.eq_ofNat_of_zero_le u1
  have on:onesI (hh:Int) ys (hh:Int)=((plc (bitAt ys) hh).length:Int):=by
   rw[plc_cnt];unfold onesI;rw[p5,show min (hh:Int) (hh:Int)=(hh:Int)by omega,Int.toNat_natCast];rfl
  by_cases P2:(kn:Int)=(loN n mm:Int)∧(vn:Int)=(max (wdF n mm) 1:Nat)∧(hh:Int)=((mm+n/2^wdF n mm+1:Nat):Int)∧onesI (hh:Int) ys (hh:Int)=(mm:Int)
  ·obtain⟨g1,g2,g3,g4⟩:=P2;rw[on]at g4;have F:Fits n mm kn vn LM xs hh ys:=⟨by omega,by omega,p4,p5,by omega,by omega,by omega,by omega⟩
   have FC:Hid (∀w0,Below w.heap.size w w0→Calls Tryz.prog 145 #[.agg #[.int .i64 (n:Nat),.int .i64 (mm:Nat),.int .i64 (kn:Nat),.int .i64 (vn:Nat),.int .i64 LM,.slice ao xs.length cap,.int .i64 (hh:Nat),.slice qo ys.length dap]] w0 fun e w'=>e=.returned (.bool true)∧Below w0.heap.size w0 w'):=fun w0 hb=>
    gfits_on n mm kn vn LM hh ao xs cap qo ys dap w0 (a1.keep hb) a2 (a4.keep hb) a5 a3 a6 (by omega) (by omega) p4 p5 true ⟨fun _=>⟨g1,g2,g3,by rw[on];exact g4⟩,fun _=>rfl⟩
   refine gcheck_fits n mm kn vn hh LM ao xs cap qo ys dap w F a1 a2 a4 a5 FC _ ⟨fun hk=>?_,fun hG=>fits_ok n mm kn vn hh LM xs ys a2 a5 F hG⟩;obtain⟨_,hl,hg,hr⟩:=ok_fits n mm kn vn hh LM xs ys hk;intro q hq
   rw[hg q hq];refine⟨hr.1 q (by omega),fun h0=>?_⟩;rw[hg (q-1) (by omega)];exact hr.lt (by omega) (by omega)
  ·have ko:kOk9 ⟨n,mm,kn,vn,LM,xs,hh,ys⟩=false:=Bool.eq_false_iff.2 fun hk=>by
    obtain⟨F,_⟩:=ok_fits n mm kn vn hh LM xs ys hk;exact P2 ⟨by rw[F.hk],by rw[F.hv],by rw[F.hh],by rw[on,F.on]⟩
   rw[ko];refine gcheck_bad _ _ _ _ _ _ _ _ w fun w0 hb=>?_
   exact gfits_on n mm kn vn LM hh ao xs cap qo ys dap w0 (a1.keep hb) a2 (a4.keep hb) a5 a3 a6 (by omega) (by omega) p4 p5 false ⟨fun h=>absurd h (by simp),fun h=>absurd h P2⟩
 ·have ko:kOk9 ⟨N,M,k,V,LM,xs,H,ys⟩=false:=Bool.eq_false_iff.2 fun hk=>by
   obtain⟨n,mm,kn,vn,hh,LM',xs',ys',e⟩:=kOk_nat _ hk;simp only[FA.mk.injEq]at e;obtain⟨rfl,rfl,rfl,rfl,rfl,rfl,rfl,rfl⟩:=e;obtain⟨F,_⟩:=ok_fits n mm kn vn hh LM xs ys hk
   exact P1 ⟨⟨by omega,by have:=F.hm;omega,by have:=F.hn;omega⟩,F.ik,F.ck⟩
  rw[ko];refine gcheck_bad _ _ _ _ _ _ _ _ w fun w0 hb=>?_;exact gfits_bad N M k V LM H ao xs cap qo ys dap w0 (a1.keep hb) a2 (a4.keep hb) a5 a3 a6 P1
theorem check_is{w:World}{cs:List Value}{a:RA9}(h:KI9 w cs a)(b:Bool)(hb:kOk9 a=b):Hid (∀w0,Below w.heap.size w w0→Calls Tryz.prog 86 #[.agg cs.toArray] w0 fun e w'=>e=.returned (.bool b)∧Below w0.heap.size w0 w'):=fun w0 hw=>by
 have:=check_k9 cs a w0 (h.keep hw);rw[hb]at this;exact this
theorem size_k9(cs:List Value)(a:RA9)(w:World)(h:KI9 w cs a):
  Calls Tryz.prog 75 #[.agg cs.toArray] w fun e w'=>e=.returned (.int .i64 (kZ9 a))∧Below w.heap.size w w':=by
 cases hk:kOk9 a with
 | false=>
  have CC:=check_is h false hk;have e1:kZ9 a=0:=by unfold kZ9;rw[hk];rfl
  rw[e1];obtain⟨⟨ao,cap,qo,dap,rfl,_⟩,_⟩:=h;obtain⟨N,M,k,V,LM,xs,H,ys⟩:=a;dsimp only at *
  obtain⟨W,hW⟩:∃W,W=w.alloc (.cells #[.int .i64 N,.int .i64 M,.int .i64 k,.int .i64 V,.int .i64 LM,.slice ao xs.length cap,.int .i64 H,.slice qo ys.length dap] 43):=⟨_,rfl⟩;have bW:=yb1 hW;have B1:=yc1 hW
  go_enter Tryz.func75,Tryz.ntmps75;go_wp2_with fail;rw[←hW];refine(CC.out _ bW).mono ?_;rintro e w1 ⟨rfl,hb⟩;have bw1:=bW.trans (hb.mono bW.size);replace B1:=B1.kept hb;clear hb CC hW bW;go_wp2;go_ret;exact⟨rfl,bw1⟩
 | true=>
  have CC:=check_is h true hk;obtain⟨n,mm,kn,vn,hh,LM,xs,ys,rfl⟩:=kOk_nat a hk;obtain⟨F,hl,hg,hr⟩:=ok_fits n mm kn vn hh LM xs ys hk
  have e1:kZ9 ⟨n,mm,kn,vn,LM,xs,hh,ys⟩=LM+(hh:Int)+64:=by unfold kZ9;rw[if_pos hk]
  rw[e1];obtain⟨_,_,_,_,_,l1,l2,_⟩:=ichk_out _ _ _ _ F.ik;obtain⟨_,l3,_,_⟩:=chk_out _ _ F.ck;obtain⟨⟨ao,cap,qo,dap,rfl,ir,a1,a2,a3,a4,a5,a6⟩,n3,xl,yl⟩:=h;dsimp only at *
  clear ir a1 a2 a3 a4 a5 a6 F hl hg hr hk
  obtain⟨W,hW⟩:∃W,W=w.alloc (.cells #[.int .i64 (n:Nat),.int .i64 (mm:Nat),.int .i64 (kn:Nat),.int .i64 (vn:Nat),.int .i64 LM,.slice ao xs.length cap,.int .i64 (hh:Nat),.slice qo ys.length dap] 43):=⟨_,rfl⟩
  have bW:=yb1 hW;have B1:=yc1 hW;go_enter Tryz.func75,Tryz.ntmps75;go_wp2_with fail;rw[←hW];refine(CC.out _ bW).mono ?_;rintro e w1 ⟨rfl,hb⟩;have bw1:=bW.trans (hb.mono bW.size);replace B1:=B1.kept hb
  clear hb CC hW bW;have q4:=B1.cell 4 rfl;have q6:=B1.cell 6 rfl;go_wp2;go_ret;exact⟨rfl,bw1⟩
end Go.Proofs.YtfnkklkdajlhlaaGreatDoor
