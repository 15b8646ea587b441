import Derived.Test.YtfnkklkdajlhlaaGreatDoorE09
set_option linter.unusedVariables false
set_option linter.unusedSimpArgs false
set_option maxRecDepth 100000
set_option maxHeartbeats 16000000
namespace Go.Proofs.YtfnkklkdajlhlaaGreatDoor
open Go.RowKit Go.Shelf Num Bit
theorem access_k9(cs:List Value)(a:RA9)(i:Int)(w:World)(h:KI9 w cs a)(hi:I64 i):
  Qq 65 #[.agg cs.toArray,.int .i64 i] w (.tuple #[.bool (gaB (kOk9 a) (kBN9 a) (kBX9 a) i),.int .i64 (gaE (kOk9 a) (kBN9 a) (kBX9 a) i)]):=by
 obtain⟨P1,hP1⟩:∃P:Bool,Hid (P=gaB (kOk9 a) (kBN9 a) (kBX9 a) i):=⟨gaB (kOk9 a) (kBN9 a) (kBX9 a) i,(rfl:gaB (kOk9 a) (kBN9 a) (kBX9 a) i=gaB (kOk9 a) (kBN9 a) (kBX9 a) i)⟩
 obtain⟨P2,hP2⟩:∃P:Int,Hid (P=gaE (kOk9 a) (kBN9 a) (kBX9 a) i):=⟨gaE (kOk9 a) (kBN9 a) (kBX9 a) i,(rfl:gaE (kOk9 a) (kBN9 a) (kBX9 a) i=gaE (kOk9 a) (kBN9 a) (kBX9 a) i)⟩;rw[←hP1.out,←hP2.out]
 cases hk:kOk9 a with
 | false=>
  have CC:=check_is h false hk
  have E:Hid (P1=false∧P2=2):=by
   show _∧_;rw[hP1.out,hP2.out];unfold gaB gaE;rw[hk];exact⟨rfl,rfl⟩
  obtain⟨⟨ao,cap,qo,dap,rfl,_⟩,_⟩:=h;obtain⟨N,M,k,V,LM,xs,H,ys⟩:=a;dsimp only at *;clear hP1 hP2
  obtain⟨W,hW⟩:∃W,W=w.alloc (.cells #[.int .i64 N,.int .i64 M,.int .i64 k,.int .i64 V,.int .i64 LM,.slice ao xs.length cap,.int .i64 H,.slice qo ys.length dap] 43):=⟨_,rfl⟩;have bW:=yb1 hW;have B1:=yc1 hW
  go_enter Tryz.func65,Tryz.ntmps65;go_wp2_with fail;rw[←hW];refine mr (CC.out _ bW) fun w1 hb=>?_;have bw1:=bg bW hb;replace B1:=B1.kept hb;clear hb CC hW bW;go_wp2;go_ret2
  rw[E.out.1,E.out.2];exact⟨rfl,bw1⟩
 | true=>
  have CC:=check_is h true hk;have hck:=kB_chk9 a hk;obtain⟨n,mm,kn,vn,hh,LM,xs,ys,rfl⟩:=kOk_nat a hk;obtain⟨F,hl,hg,hr⟩:=ok_fits n mm kn vn hh LM xs ys hk
  have e1:kBN9 ⟨n,mm,kn,vn,LM,xs,hh,ys⟩=(n:Int):=by unfold kBN9;rw[if_pos hk]
  have e2:kBX9 ⟨n,mm,kn,vn,LM,xs,hh,ys⟩=rowOf n (isIn (kRow ⟨n,mm,kn,vn,LM,xs,hh,ys⟩)):=by unfold kBX9;rw[if_pos hk];rfl
  rw[e1,e2]at hck;rw[hk,e1,e2]at hP1;rw[hk,e1,e2]at hP2;generalize kRow ⟨n,mm,kn,vn,LM,xs,hh,ys⟩=l at *;obtain⟨⟨ao,cap,qo,dap,rfl,ir,a1,a2,a3,a4,a5,a6⟩,n3,xl,yl⟩:=h;dsimp only at *
  have nl:=F.hn;have ml:=F.hm;clear hk e1 e2 n3 xl yl ir
  obtain⟨W,hW⟩:∃W,W=w.alloc (.cells #[.int .i64 (n:Nat),.int .i64 (mm:Nat),.int .i64 (kn:Nat),.int .i64 (vn:Nat),.int .i64 LM,.slice ao xs.length cap,.int .i64 (hh:Nat),.slice qo ys.length dap] 43):=⟨_,rfl⟩
  have bW:=yb1 hW;have B1:=yc1 hW;by_cases i0:i<0∨(n:Int)≤i
  ·have E:Hid (P1=false∧P2=3):=by
    show _∧_;rw[hP1.out,hP2.out];unfold gaB gaE getB getE;rw[hck,if_pos rfl,if_neg (by simp),if_pos i0,decide_eq_false (by omega)];exact⟨rfl,rfl⟩
   clear hP1 hP2 hck hl hg hr F a1 a4 a2 a5;rcases i0 with i0 | i0
   ·skip;go_enter Tryz.func65,Tryz.ntmps65;go_wp2_with fail;rw[←hW];refine mr (CC.out _ bW) fun w1 hb=>?_;have bw1:=bg bW hb;replace B1:=B1.kept hb;clear hb CC hW bW
    have q0:=B1.cell 0 rfl;go_wp2;go_ret2;rw[E.out.1,E.out.2];exact⟨rfl,bw1⟩
   ·skip;have i1:¬i<0:=by omega
    go_enter Tryz.func65,Tryz.ntmps65;go_wp2_with fail;rw[←hW];refine mr (CC.out _ bW) fun w1 hb=>?_;have bw1:=bg bW hb;replace B1:=B1.kept hb;clear hb CC hW bW;have q0:=B1.cell 0 rfl
    go_wp2;go_ret2;rw[E.out.1,E.out.2];exact⟨rfl,bw1⟩
  ·obtain⟨j,rfl⟩:=Int.eq_ofNat_of_zero_le (show 0≤i by omega)
   have E:Hid (P1=isIn l j∧P2=0):=by
    show _∧_;rw[hP1.out,hP2.out];unfold gaB gaE getB getE;rw[hck,if_pos rfl,if_neg (by simp),if_neg i0,decide_eq_true (by omega),Int.toNat_natCast,bit_row n l hr];exact⟨rfl,rfl⟩
   have C2:Hid (Qz w 119 #[.agg #[.int .i64 (n:Nat),.int .i64 (mm:Nat),.int .i64 (kn:Nat),.int .i64 (vn:Nat),.int .i64 LM,.slice ao xs.length cap,.int .i64 (hh:Nat),.slice qo ys.length dap],.int .i64 (j:Nat)] (.bool (isIn l j))):=fun w0 hb=>gisOne_c n mm kn vn hh LM ao xs cap qo ys dap l w0 F (a1.keep hb) a2 (a4.keep hb) a5 hl hg hr j (by omega)
   have i1:¬(j:Int)<0:=by omega
   have i2:¬(n:Int)≤(j:Int):=by omega
   clear hP1 hP2 hck hl hg hr F a1 a4 a2 a5 i0;go_enter Tryz.func65,Tryz.ntmps65;go_wp2_with fail;rw[←hW];refine mr (CC.out _ bW) fun w1 hb=>?_;have bw1:=bg bW hb;replace B1:=B1.kept hb
   clear hb CC hW bW;have q0:=B1.cell 0 rfl;have q1:=B1.cell 1 rfl;have q2:=B1.cell 2 rfl;have q3:=B1.cell 3 rfl;have q4:=B1.cell 4 rfl;have q5:=B1.cell 5 rfl;have q6:=B1.cell 6 rfl;have q7:=B1.cell 7 rfl
   go_wp2_with fail;refine mr (C2.out _ bw1) fun w2 hb=>?_;have bw2:=bg bw1 hb;clear hb;go_wp2;go_ret2;rw[E.out.1,E.out.2];exact⟨rfl,bw2⟩
theorem rank_k9(cs:List Value)(a:RA9)(bit:Bool)(i:Int)(w:World)(h:KI9 w cs a)(hi:I64 i):
  Qq 122 #[.agg cs.toArray,.bool bit,.int .i64 i] w (.tuple #[.int .i64 (grN (kOk9 a) (kBN9 a) (kBX9 a) bit i),.int .i64 (grE (kOk9 a) (kBN9 a) i)]):=by
 obtain⟨P1,hP1⟩:∃P:Int,Hid (P=grN (kOk9 a) (kBN9 a) (kBX9 a) bit i):=⟨grN (kOk9 a) (kBN9 a) (kBX9 a) bit i,(rfl:grN (kOk9 a) (kBN9 a) (kBX9 a) bit i=grN (kOk9 a) (kBN9 a) (kBX9 a) bit i)⟩
 obtain⟨P2,hP2⟩:∃P:Int,Hid (P=grE (kOk9 a) (kBN9 a) i):=⟨grE (kOk9 a) (kBN9 a) i,(rfl:grE (kOk9 a) (kBN9 a) i=grE (kOk9 a) (kBN9 a) i)⟩;rw[←hP1.out,←hP2.out];cases hk:kOk9 a with
 | false=>
  have CC:=check_is h false hk
  have E:Hid (P1=0∧P2=2):=by
   show _∧_;rw[hP1.out,hP2.out];unfold grN grE;rw[hk];exact⟨rfl,rfl⟩
  obtain⟨⟨ao,cap,qo,dap,rfl,_⟩,_⟩:=h;obtain⟨N,M,k,V,LM,xs,H,ys⟩:=a;dsimp only at *;clear hP1 hP2
  obtain⟨W,hW⟩:∃W,W=w.alloc (.cells #[.int .i64 N,.int .i64 M,.int .i64 k,.int .i64 V,.int .i64 LM,.slice ao xs.length cap,.int .i64 H,.slice qo ys.length dap] 43):=⟨_,rfl⟩;have bW:=yb1 hW;have B1:=yc1 hW
  go_enter Tryz.func122,Tryz.ntmps122;go_wp2_with fail;rw[←hW];refine mr (CC.out _ bW) fun w1 hb=>?_;have bw1:=bg bW hb;replace B1:=B1.kept hb;clear hb CC hW bW;go_wp2;go_ret2
  rw[E.out.1,E.out.2];exact⟨rfl,bw1⟩
 | true=>
  have CC:=check_is h true hk;have hck:=kB_chk9 a hk;obtain⟨n,mm,kn,vn,hh,LM,xs,ys,rfl⟩:=kOk_nat a hk;obtain⟨F,hl,hg,hr⟩:=ok_fits n mm kn vn hh LM xs ys hk
  have e1:kBN9 ⟨n,mm,kn,vn,LM,xs,hh,ys⟩=(n:Int):=by unfold kBN9;rw[if_pos hk]
  have e2:kBX9 ⟨n,mm,kn,vn,LM,xs,hh,ys⟩=rowOf n (isIn (kRow ⟨n,mm,kn,vn,LM,xs,hh,ys⟩)):=by unfold kBX9;rw[if_pos hk];rfl
  rw[e1,e2]at hck;rw[hk,e1,e2]at hP1;rw[hk,e1]at hP2;generalize kRow ⟨n,mm,kn,vn,LM,xs,hh,ys⟩=l at *;obtain⟨⟨ao,cap,qo,dap,rfl,ir,a1,a2,a3,a4,a5,a6⟩,n3,xl,yl⟩:=h;dsimp only at *;have nl:=F.hn
  have ml:=F.hm;clear hk e1 e2 n3 xl yl ir
  obtain⟨W,hW⟩:∃W,W=w.alloc (.cells #[.int .i64 (n:Nat),.int .i64 (mm:Nat),.int .i64 (kn:Nat),.int .i64 (vn:Nat),.int .i64 LM,.slice ao xs.length cap,.int .i64 (hh:Nat),.slice qo ys.length dap] 43):=⟨_,rfl⟩
  have bW:=yb1 hW;have B1:=yc1 hW;by_cases i0:i<0∨(n:Int)<i
  ·have E:Hid (P1=0∧P2=3):=by
    show _∧_;rw[hP1.out,hP2.out];unfold grN grE;rw[if_pos rfl,if_pos i0];exact⟨rfl,rfl⟩
   clear hP1 hP2 hck hl hg hr F a1 a4 a2 a5;rcases i0 with i0 | i0
   ·skip;go_enter Tryz.func122,Tryz.ntmps122;go_wp2_with fail;rw[←hW];refine mr (CC.out _ bW) fun w1 hb=>?_;have bw1:=bg bW hb;replace B1:=B1.kept hb;clear hb CC hW bW
    have q0:=B1.cell 0 rfl;go_wp2;go_ret2;rw[E.out.1,E.out.2];exact⟨rfl,bw1⟩
   ·skip;have i1:¬i<0:=by omega
    go_enter Tryz.func122,Tryz.ntmps122;go_wp2_with fail;rw[←hW];refine mr (CC.out _ bW) fun w1 hb=>?_;have bw1:=bg bW hb;replace B1:=B1.kept hb;clear hb CC hW bW;have q0:=B1.cell 0 rfl
    go_wp2;go_ret2;rw[E.out.1,E.out.2];exact⟨rfl,bw1⟩
  ·obtain⟨j,rfl⟩:=Int.eq_ofNat_of_zero_le (show 0≤i by omega);obtain⟨c,hc⟩:∃c,c=cntB (rowOf n (isIn l)) j:=⟨_,rfl⟩;have cj:c≤j:=by rw[hc];exact cntB_le _ _
   have E:Hid (P1=((if bit then c else j-c:Nat):Int)∧P2=0):=by
    show _∧_;rw[hP1.out,hP2.out];unfold grN grE;rw[if_pos rfl,if_neg i0,if_pos rfl,Int.toNat_natCast];unfold cB;rw[←hc];exact⟨rfl,rfl⟩
   have C2:Hid (Qz w 176 #[.agg #[.int .i64 (n:Nat),.int .i64 (mm:Nat),.int .i64 (kn:Nat),.int .i64 (vn:Nat),.int .i64 LM,.slice ao xs.length cap,.int .i64 (hh:Nat),.slice qo ys.length dap],.int .i64 (j:Nat)] (.int .i64 (c:Nat))):=fun w0 hb=>gones_c n mm kn vn hh LM ao xs cap qo ys dap l w0 F (a1.keep hb) a2 (a4.keep hb) a5 hl hg hr j (by omega) c (by rw[hc];exact cut_cnt hr j)
   have C3:Hid (∀w0,Qx 137 #[.bool bit,.int .i64 (j:Nat),.int .i64 (c:Nat)] w0 (.int .i64 ((if bit then c else j-c:Nat):Int))):=fun w0=>gofBit_c bit j c (by omega) cj w0
   have i1:¬(j:Int)<0:=by omega
   have i2:¬(n:Int)<(j:Int):=by omega
   clear hP1 hP2 hck hl hg hr F a1 a4 a2 a5 i0 hc;generalize (if bit then c else j-c:Nat)=R at *;go_enter Tryz.func122,Tryz.ntmps122;go_wp2_with fail;rw[←hW];refine mr (CC.out _ bW) fun w1 hb=>?_
   have bw1:=bg bW hb;replace B1:=B1.kept hb;clear hb CC hW bW;have q0:=B1.cell 0 rfl;have q1:=B1.cell 1 rfl;have q2:=B1.cell 2 rfl;have q3:=B1.cell 3 rfl;have q4:=B1.cell 4 rfl
   have q5:=B1.cell 5 rfl;have q6:=B1.cell 6 rfl;have q7:=B1.cell 7 rfl;go_wp2_with fail;refine mr (C2.out _ bw1) fun w2 hb=>?_;have bw2:=bg bw1 hb;clear hb;go_wp2_with fail
   refine mr (C3.out _) fun w3 h3=>?_;rw[h3];clear h3 w3;go_wp2;go_ret2;rw[E.out.1,E.out.2];exact⟨rfl,bw2⟩
theorem select_k9(cs:List Value)(a:RA9)(bit:Bool)(k:Int)(w:World)(h:KI9 w cs a)(hi:I64 k):
  Qq 83 #[.agg cs.toArray,.bool bit,.int .i64 k] w (.tuple #[.int .i64 (gsX (kOk9 a) (kBN9 a) (kBX9 a) bit k),.int .i64 (gsE (kOk9 a) (kBN9 a) (kBX9 a) bit k)]):=by
 obtain⟨P1,hP1⟩:∃P:Int,Hid (P=gsX (kOk9 a) (kBN9 a) (kBX9 a) bit k):=⟨gsX (kOk9 a) (kBN9 a) (kBX9 a) bit k,(rfl:gsX (kOk9 a) (kBN9 a) (kBX9 a) bit k=gsX (kOk9 a) (kBN9 a) (kBX9 a) bit k)⟩
 obtain⟨P2,hP2⟩:∃P:Int,Hid (P=gsE (kOk9 a) (kBN9 a) (kBX9 a) bit k):=⟨gsE (kOk9 a) (kBN9 a) (kBX9 a) bit k,(rfl:gsE (kOk9 a) (kBN9 a) (kBX9 a) bit k=gsE (kOk9 a) (kBN9 a) (kBX9 a) bit k)⟩;rw[←hP1.out,←hP2.out]
 cases hk:kOk9 a with
 | false=>
  have CC:=check_is h false hk
  have E:Hid (P1=0∧P2=2):=by
   show _∧_;rw[hP1.out,hP2.out];unfold gsX gsE;rw[hk];exact⟨rfl,rfl⟩
  obtain⟨⟨ao,cap,qo,dap,rfl,_⟩,_⟩:=h;obtain⟨N,M,k0,V,LM,xs,H,ys⟩:=a;dsimp only at *;clear hP1 hP2
  obtain⟨W,hW⟩:∃W,W=w.alloc (.cells #[.int .i64 N,.int .i64 M,.int .i64 k0,.int .i64 V,.int .i64 LM,.slice ao xs.length cap,.int .i64 H,.slice qo ys.length dap] 43):=⟨_,rfl⟩;have bW:=yb1 hW;have B1:=yc1 hW
  go_enter Tryz.func83,Tryz.ntmps83;go_wp2_with fail;rw[←hW];refine mr (CC.out _ bW) fun w1 hb=>?_;have bw1:=bg bW hb;replace B1:=B1.kept hb;clear hb CC hW bW;go_wp2;go_ret2
  rw[E.out.1,E.out.2];exact⟨rfl,bw1⟩
 | true=>
  have CC:=check_is h true hk;have hck:=kB_chk9 a hk;obtain⟨n,mm,kn,vn,hh,LM,xs,ys,rfl⟩:=kOk_nat a hk;obtain⟨F,hl,hg,hr⟩:=ok_fits n mm kn vn hh LM xs ys hk
  have e1:kBN9 ⟨n,mm,kn,vn,LM,xs,hh,ys⟩=(n:Int):=by unfold kBN9;rw[if_pos hk]
  have e2:kBX9 ⟨n,mm,kn,vn,LM,xs,hh,ys⟩=rowOf n (isIn (kRow ⟨n,mm,kn,vn,LM,xs,hh,ys⟩)):=by unfold kBX9;rw[if_pos hk];rfl
  rw[e1,e2]at hck;rw[hk,e1,e2]at hP1;rw[hk,e1,e2]at hP2;generalize kRow ⟨n,mm,kn,vn,LM,xs,hh,ys⟩=l at *;obtain⟨⟨ao,cap,qo,dap,rfl,ir,a1,a2,a3,a4,a5,a6⟩,n3,xl,yl⟩:=h;dsimp only at *
  have nl:=F.hn;have ml:=F.hm;clear hk e1 e2 n3 xl yl ir
  obtain⟨W,hW⟩:∃W,W=w.alloc (.cells #[.int .i64 (n:Nat),.int .i64 (mm:Nat),.int .i64 (kn:Nat),.int .i64 (vn:Nat),.int .i64 LM,.slice ao xs.length cap,.int .i64 (hh:Nat),.slice qo ys.length dap] 43):=⟨_,rfl⟩
  have bW:=yb1 hW;have B1:=yc1 hW
  have all:cB (rowOf n (isIn l)) bit n=if bit then mm else n-mm:=by
   unfold cB;rw[cut_all hr,hl]
  have IFF:=psel_iff (n:Int) (rowOf n (isIn l)) bit k;rw[Int.toNat_natCast,all]at IFF
  have C3:Hid (∀w0,Qx 137 #[.bool bit,.int .i64 (n:Nat),.int .i64 (mm:Nat)] w0 (.int .i64 ((if bit then mm else n-mm:Nat):Int))):=fun w0=>gofBit_c bit n mm nl ml w0
  obtain⟨R,hR⟩:∃R,Hid (R=if bit then mm else n-mm):=⟨_,rfl⟩;rw[←hR.out]at IFF C3;have RR:R≤1048576:=by rw[hR.out];split<;>omega
  by_cases i0:k<0∨(R:Int)≤k
  ·have E:Hid (P1=0∧P2=3):=by
    show _∧_
    have hn:pselO (n:Int) (rowOf n (isIn l)) bit k=none:=by
     cases e:pselO (n:Int) (rowOf n (isIn l)) bit k with
     | none=>rfl
     | some x=>
      rw[e]at IFF;have:=IFF.1 rfl;omega
    rw[hP1.out,hP2.out];unfold gsX gsE;rw[hn];exact⟨rfl,rfl⟩
   clear hP1 hP2 hck hl hg hr F a1 a4 a2 a5 IFF all;rcases i0 with i0 | i0
   ·skip;go_enter Tryz.func83,Tryz.ntmps83;go_wp2_with fail;rw[←hW];refine mr (CC.out _ bW) fun w1 hb=>?_;have bw1:=bg bW hb;replace B1:=B1.kept hb;clear hb CC hW bW
    have q0:=B1.cell 0 rfl;have q1:=B1.cell 1 rfl;go_wp2;go_ret2;rw[E.out.1,E.out.2];exact⟨rfl,bw1⟩
   ·by_cases i1:k<0
    ·skip;go_enter Tryz.func83,Tryz.ntmps83;go_wp2_with fail;rw[←hW];refine mr (CC.out _ bW) fun w1 hb=>?_;have bw1:=bg bW hb;replace B1:=B1.kept hb;clear hb CC hW bW
     have q0:=B1.cell 0 rfl;have q1:=B1.cell 1 rfl;go_wp2;go_ret2;rw[E.out.1,E.out.2];exact⟨rfl,bw1⟩
    ·skip;go_enter Tryz.func83,Tryz.ntmps83;go_wp2_with fail;rw[←hW];refine mr (CC.out _ bW) fun w1 hb=>?_;have bw1:=bg bW hb;replace B1:=B1.kept hb;clear hb CC hW bW
     have q0:=B1.cell 0 rfl;have q1:=B1.cell 1 rfl;go_wp2_with fail;refine mr (C3.out _) fun w3 h3=>?_;rw[h3];clear h3 w3;go_wp2;go_ret2;rw[E.out.1,E.out.2];exact⟨rfl,bw1⟩
  ·obtain⟨j,rfl⟩:=Int.eq_ofNat_of_zero_le (show 0≤k by omega);have jR:j<R:=by omega
   have C2:∃p:Nat,Hid (P1=(p:Int)∧P2=0)∧Hid (Qz w 138 #[.agg #[.int .i64 (n:Nat),.int .i64 (mm:Nat),.int .i64 (kn:Nat),.int .i64 (vn:Nat),.int .i64 LM,.slice ao xs.length cap,.int .i64 (hh:Nat),.slice qo ys.length dap],.bool bit,.int .i64 (j:Nat)] (.int .i64 (p:Nat))):=by
    have key:∀p,pselO (n:Int) (rowOf n (isIn l)) bit (j:Int)=some p→P1=(p:Int)∧P2=0:=fun p hp=>by
     rw[hP1.out,hP2.out];unfold gsX gsE;rw[hp];exact⟨rfl,rfl⟩
    cases bit with
    | true=>
     have hR':R=mm:=hR.out;obtain⟨b1,b2⟩:=cut_one hr j (by omega);have b3:=hr.1 j (by omega)
     refine⟨gt l j,key _ (psel_some _ _ _ _ _ (by rw[Int.toNat_natCast];exact b3) ?_),fun w0 hb=>gsought1_c n mm kn vn hh LM ao xs cap qo ys dap l w0 F (a1.keep hb) a2 (a4.keep hb) a5 hl hg hr j (by omega)⟩
     unfold here cB;rw[b1,if_pos rfl,b2];simp
    | false=>
     have hR':R=n-mm:=hR.out;obtain⟨c,hc,b1,b2,b3⟩:=cut_zero hr j (by rw[hl];omega)
     refine⟨j+c,key _ (psel_some _ _ _ _ _ (by rw[Int.toNat_natCast];exact b1) ?_),fun w0 hb=>gsought0_c n mm kn vn hh LM ao xs cap qo ys dap l w0 F (a1.keep hb) a2 (a4.keep hb) a5 hl hg hr j (by omega) c hc⟩
     unfold here cB;rw[b2,if_neg (by simp),b3];simp
   obtain⟨p,E,C2⟩:=C2;have i1:¬(j:Int)<0:=by omega
   have i2:¬(R:Int)≤(j:Int):=by omega
   clear hP1 hP2 hck hl hg hr F a1 a4 a2 a5 i0 IFF all hR jR;go_enter Tryz.func83,Tryz.ntmps83;go_wp2_with fail;rw[←hW];refine mr (CC.out _ bW) fun w1 hb=>?_;have bw1:=bg bW hb
   replace B1:=B1.kept hb;clear hb CC hW bW;have q0:=B1.cell 0 rfl;have q1:=B1.cell 1 rfl;have q2:=B1.cell 2 rfl;have q3:=B1.cell 3 rfl;have q4:=B1.cell 4 rfl;have q5:=B1.cell 5 rfl;have q6:=B1.cell 6 rfl
   have q7:=B1.cell 7 rfl;go_wp2_with fail;refine mr (C3.out _) fun w3 h3=>?_;rw[h3];clear h3 w3;go_wp2_with fail;refine mr (C2.out _ bw1) fun w2 hb=>?_;have bw2:=bg bw1 hb
   clear hb;go_wp2;go_ret2;rw[E.out.1,E.out.2];exact⟨rfl,bw2⟩
end Go.Proofs.YtfnkklkdajlhlaaGreatDoor
namespace Go.Proofs.YtfnkklkdajlhlaaGreatDoor
open Go.ChangeShapes Go.WideShapes Go.ChangeAt Go.RowKit Go.Joins Go.Deep Num Bit
theorem trod_struct4{H:Type}{enc:TypeId×Value→H}{P:Program}{w:World}{base:Nat}{spare:Nat→Bool}{held:Bool}{t:TypeId}{f0 f1 f2 f3:Field}{fuel:Nat}{cs:List Value}{x:DataW H×List MemPlace}(ht:P.underlying t=some (.struct #[f0,f1,f2,f3]))(h:DataW.trod enc P w base spare held fuel t cs=some x):
  ∃y0 y1 y2 y3 n,DataW.trod enc P w base spare held n f0.type ((cs.drop f0.offset).take (P.cellsOf f0.type))=some y0∧
   DataW.trod enc P w base spare held n f1.type ((cs.drop f1.offset).take (P.cellsOf f1.type))=some y1∧DataW.trod enc P w base spare held n f2.type ((cs.drop f2.offset).take (P.cellsOf f2.type))=some y2∧
   DataW.trod enc P w base spare held n f3.type ((cs.drop f3.offset).take (P.cellsOf f3.type))=some y3:=by
 obtain⟨xs,n,_,rfl,hl,hlen,hf⟩:=DataW.trod_struct ht h;match xs,hlen with
 | [y0,y1,y2,y3],_=>exact⟨y0,y1,y2,y3,n,by simpa using hf 0 f0 rfl,by simpa using hf 1 f1 rfl,by simpa using hf 2 f2 rfl,by simpa using hf 3 f3 rfl⟩
theorem kB_ok9(N:Int)(xs:List Nat)(hf:Fit xs)(hk:chk N xs=true)(hN:N≤3000):kOk9 (kB9 N xs)=true∧kBN9 (kB9 N xs)=N∧kBX9 (kB9 N xs)=xs:=by
 obtain⟨h0,h1,_,_⟩:=chk_out N xs hk;obtain⟨n,rfl⟩:=Int.eq_ofNat_of_zero_le h0;have hn:n≤3000:=by omega
 obtain⟨L,hL⟩:∃L,L=plc (bitAt xs) n:=⟨_,rfl⟩;have RS:Rise L n:=by rw[hL];exact plc_rise _ _
 have mn:=RS.len;have v20:=wdF_le n L.length (by omega)
 have e:kB9 (n:Int) xs=fOf n L:=by
  unfold kB9;rw[if_pos hk,Int.toNat_natCast,←hL]
 have hE:n/2^wdF n L.length≤n:=Nat.div_le_self _ _
 have hrow:fRow (fOf n L)=some L:=by
  refine fRow_of RS (by omega) (by unfold hiN;omega) ?_;have l1:=length_lo_le L (wdF n L.length);have l3:(loP L (wdF n L.length)).length*max (wdF n L.length) 1≤3000*20:=Nat.mul_le_mul (by omega) (by omega);omega
 have ok:kOk9 (fOf n L)=true:=by
  unfold kOk9;rw[hrow];exact(fSame_iff _ _).2 rfl
 rw[e];refine⟨ok,?_,?_⟩
 ·unfold kBN9;rw[if_pos ok];rfl
 ·unfold kBX9 kRow;rw[if_pos ok,hrow];show rowOf n (isIn L)=xs;have hy:=chk_row (n:Int) xs hf hk;rw[Int.toNat_natCast]at hy
  rw[rowOf_congr n _ (bitAt xs) fun j hj=>by rw[hL,isIn_plc,decide_eq_true hj,Bool.true_and]];exact hy.symm
end Go.Proofs.YtfnkklkdajlhlaaGreatDoor
namespace Go.Proofs.YtfnkklkdajlhlaaGreatDoor
open Go.ChangeShapes Go.WideShapes Go.ChangeAt Go.RowKit Go.Joins Go.Deep Num Bit Bn
theorem kB_p(N:Int)(xs:List Nat)(h:kE7 N xs=0):kB 1 N xs=⟨1,kB7 N xs,n8,n9⟩:=by
 have e:kE 1 N xs=0:=h;unfold kB;rw[if_pos e];rfl
theorem kB_r(N:Int)(xs:List Nat)(h:kE8 N xs=0):kB 2 N xs=⟨2,n7,kB8 N xs,n9⟩:=by
 have e:kE 2 N xs=0:=h;unfold kB;rw[if_pos e];rfl
theorem kB_f(N:Int)(xs:List Nat)(h:kE9 N xs=0):kB 3 N xs=⟨3,n7,n8,kB9 N xs⟩:=by
 have e:kE 3 N xs=0:=h;unfold kB;rw[if_pos e];rfl
theorem kB_none(k N:Int)(xs:List Nat)(h:kE k N xs≠0):kB k N xs=⟨0,n7,n8,n9⟩:=by
 unfold kB;rw[if_neg h]
theorem on_mp(p:RA7):kOn ⟨1,p,n8,n9⟩=1:=by
 have:kZs ⟨1,p,n8,n9⟩=true:=rfl;unfold kOn;rw[if_pos this]
theorem on_mr(r:RA8):kOn ⟨2,n7,r,n9⟩=2:=by
 have:kZs ⟨2,n7,r,n9⟩=true:=rfl;unfold kOn;rw[if_pos this]
theorem on_mf(f:RA9):kOn ⟨3,n7,n8,f⟩=3:=by
 have:kZs ⟨3,n7,n8,f⟩=true:=rfl;unfold kOn;rw[if_pos this]
theorem kB_ok(k N:Int)(xs:List Nat)(h1:1≤k)(h3:k≤3)(hf:Fit xs)(hk:chk N xs=true)(hN:N≤3000):kOk (kB k N xs)=true∧kBN (kB k N xs)=N∧kBX (kB k N xs)=xs:=by
 have e0:=kE_ok k N xs h1 h3 hk;have h:k=1∨k=2∨k=3:=by omega
 rcases h with rfl | rfl | rfl
 ·rw[kB_p N xs e0];obtain⟨e1,e2,e3,_⟩:=on_p (on_mp (kB7 N xs));obtain⟨g1,g2,g3⟩:=kB_ok7 N xs hk;exact⟨e1.trans g1,e2.trans g2,e3.trans g3⟩
 ·rw[kB_r N xs e0];obtain⟨e1,e2,e3,_⟩:=on_r (on_mr (kB8 N xs));obtain⟨g1,g2,g3⟩:=kB_ok8 N xs hf hk;exact⟨e1.trans g1,e2.trans g2,e3.trans g3⟩
 ·rw[kB_f N xs e0];obtain⟨e1,e2,e3,_⟩:=on_f (on_mf (kB9 N xs));obtain⟨g1,g2,g3⟩:=kB_ok9 N xs hf hk hN;exact⟨e1.trans g1,e2.trans g2,e3.trans g3⟩
theorem cells_f8':Tryz.prog.cellsOf 43=8:=by kernel_rfl
theorem array22{cs:Array Value}(h:cs.size=22):∃c0 c1 c2 c3 c4 c5 c6 c7 c8 c9 c10 c11 c12 c13 c14 c15 c16 c17 c18 c19 c20 c21,cs=#[c0,c1,c2,c3,c4,c5,c6,c7,c8,c9,c10,c11,c12,c13,c14,c15,c16,c17,c18,c19,c20,c21]:=by
 obtain⟨l⟩:=cs;match l,h with
 | [c0,c1,c2,c3,c4,c5,c6,c7,c8,c9,c10,c11,c12,c13,c14,c15,c16,c17,c18,c19,c20,c21],_=>exact⟨c0,c1,c2,c3,c4,c5,c6,c7,c8,c9,c10,c11,c12,c13,c14,c15,c16,c17,c18,c19,c20,c21,rfl⟩
theorem open_p7{H:Type}{enc:TypeId×Value→H}{W:World}{n:Nat}{c0 c1 c2 c3:Value}{y:DataW H×List MemPlace}(hf:DataW.trod enc Tryz.prog W 0 (fun _=>true) true n 37 [c0,c1,c2,c3]=some y):∃a:RA7,KArg7 W [c0,c1,c2,c3] a:=by
 obtain⟨y0,y1,y2,n,hx,_,h0,h1,h2⟩:=trod_struct3 Tryz.underlying37 hf;have g0:DataW.trod enc Tryz.prog W 0 (fun _=>true) true n 33 [c0,c1]=some y0:=by simpa [Tryz.cells33]using h0
 have g1:DataW.trod enc Tryz.prog W 0 (fun _=>true) true n 35 [c2]=some y1:=by simpa [Tryz.cells35,Tryz.cells33]using h1
 have g2:DataW.trod enc Tryz.prog W 0 (fun _=>true) true n 35 [c3]=some y2:=by simpa [Tryz.cells35,Tryz.cells33]using h2
 obtain⟨N,ao,xs,cap,rfl,rfl,hN,a1,a2,a3⟩:=open_b28 g0;obtain⟨so,su,sc,rfl,u1,u2,u3⟩:=open_is g1;obtain⟨tO,sb,tc,rfl,v1,v2,v3⟩:=open_is g2
 exact⟨⟨N,xs,su,sb⟩,ao,cap,so,sc,tO,tc,rfl,⟨hN,a1,a2,a3,u1,u2,u3,v1,v2,v3⟩⟩
theorem open_r8{H:Type}{enc:TypeId×Value→H}{W:World}{n:Nat}{c0 c1 c2 c3 c4 c5 c6 c7 c8:Value}{y:DataW H×List MemPlace}(hf:DataW.trod enc Tryz.prog W 0 (fun _=>true) true n 41 [c0,c1,c2,c3,c4,c5,c6,c7,c8]=some y):∃a:RA8,KArg8 W [c0,c1,c2,c3,c4,c5,c6,c7,c8] a:=by
 obtain⟨y0,y1,y2,y3,y4,n,h0,h1,h2,h3,h4⟩:=trod_struct5 Tryz.underlying41 hf;have g0:DataW.trod enc Tryz.prog W 0 (fun _=>true) true n 3 [c0]=some y0:=by simpa [Tryz.cells3]using h0
 have g1:DataW.trod enc Tryz.prog W 0 (fun _=>true) true n 39 [c1,c2,c3,c4]=some y1:=by simpa [cells_i48]using h1
 have g2:DataW.trod enc Tryz.prog W 0 (fun _=>true) true n 33 [c5,c6]=some y2:=by simpa [Tryz.cells33]using h2
 have g3:DataW.trod enc Tryz.prog W 0 (fun _=>true) true n 35 [c7]=some y3:=by simpa [Tryz.cells35]using h3
 have g4:DataW.trod enc Tryz.prog W 0 (fun _=>true) true n 35 [c8]=some y4:=by simpa [Tryz.cells35]using h4
 obtain⟨N,rfl,hN⟩:=open_i8 g0;obtain⟨k,V,M,ao,xs,cap,rfl,rfl,rfl,rfl,hk,hV,hM,a1,a2,a3⟩:=open_i48 g1;obtain⟨L,qo,ys,dap,rfl,rfl,hL,b1,b2,b3⟩:=open_b28 g2
 obtain⟨so,S,sc,rfl,u1,u2,u3⟩:=open_is g3;obtain⟨tO,T,tc,rfl,v1,v2,v3⟩:=open_is g4
 exact⟨⟨N,k,V,M,xs,L,ys,S,T⟩,ao,cap,qo,dap,so,sc,tO,tc,rfl,⟨hN,hk,hV,hM,hL,u2,v2⟩,a1,a2,a3,b1,b2,b3,u1,u3,v1,v3⟩
theorem open_f9{H:Type}{enc:TypeId×Value→H}{W:World}{n:Nat}{c0 c1 c2 c3 c4 c5 c6 c7:Value}{y:DataW H×List MemPlace}(hf:DataW.trod enc Tryz.prog W 0 (fun _=>true) true n 43 [c0,c1,c2,c3,c4,c5,c6,c7]=some y):∃a:RA9,KArg9 W [c0,c1,c2,c3,c4,c5,c6,c7] a:=by
 obtain⟨y0,y1,y2,y3,n,h0,h1,h2,h3⟩:=trod_struct4 Tryz.underlying43 hf;have g0:DataW.trod enc Tryz.prog W 0 (fun _=>true) true n 3 [c0]=some y0:=by simpa [Tryz.cells3]using h0
 have g1:DataW.trod enc Tryz.prog W 0 (fun _=>true) true n 3 [c1]=some y1:=by simpa [Tryz.cells3]using h1
 have g2:DataW.trod enc Tryz.prog W 0 (fun _=>true) true n 39 [c2,c3,c4,c5]=some y2:=by simpa [cells_i48]using h2
 have g3:DataW.trod enc Tryz.prog W 0 (fun _=>true) true n 33 [c6,c7]=some y3:=by simpa [Tryz.cells33]using h3
 obtain⟨N,rfl,hN⟩:=open_i8 g0;obtain⟨M,rfl,hM⟩:=open_i8 g1;obtain⟨k,V,LM,ao,xs,cap,rfl,rfl,rfl,rfl,hk,hV,hLM,a1,a2,a3⟩:=open_i48 g2;obtain⟨H',qo,ys,dap,rfl,rfl,hH,b1,b2,b3⟩:=open_b28 g3
 exact⟨⟨N,M,k,V,LM,xs,H',ys⟩,ao,cap,qo,dap,rfl,⟨hN,hM,hk,hV,hLM,hH⟩,a1,a2,a3,b1,b2,b3⟩
end Go.Proofs.YtfnkklkdajlhlaaGreatDoor
namespace Go.Proofs.YtfnkklkdajlhlaaGreatDoor
open Num Bit
namespace Tw
def hi(l c:Nat):Nat:=c/2^(8-l)
def Byt(t:List Nat):Prop:=∀i,gt t i<256
def sg(t:List Nat)(l p m:Nat):List Nat:=(List.range m).filter fun i=>decide (hi l (gt t i)=p)
def seg(t:List Nat)(l p:Nat):List Nat:=sg t l p t.length
def plc(t:List Nat)(l:Nat):List Nat:=(List.range (2^l)).flatMap (seg t l)
def st(t:List Nat)(l p:Nat):Nat:=((List.range t.length).filter fun i=>decide (hi l (gt t i)<p)).length
def rk(t:List Nat)(l p i:Nat):Nat:=(sg t l p i).length
def pos(t:List Nat)(l j:Nat):Nat:=st t l (hi l (gt t j))+rk t l (hi l (gt t j)) j
def tb(l c:Nat):Bool:=c.testBit (7-l)
def rb(t:List Nat)(l i:Nat):Bool:=tb l (gt t ((plc t l).getD i 0))
theorem hi_lt{l c:Nat}(hl:l≤8)(hc:c<256):hi l c<2^l:=by
 unfold hi;rw[Nat.div_lt_iff_lt_mul (Nat.two_pow_pos _),←Nat.pow_add,show l+(8-l)=8 by omega];exact hc
theorem hi_zero{c:Nat}(hc:c<256):hi 0 c=0:=by
 unfold hi;exact Nat.div_eq_of_lt hc
theorem hi_eight(c:Nat):hi 8 c=c:=by
 unfold hi;simp
theorem hi_succ{l:Nat}(hl:l<8)(c:Nat):hi (l+1) c=2*hi l c+(tb l c).toNat:=by
 unfold hi tb;have e:8-l=(8-(l+1))+1:=by omega
 have e2:7-l=8-(l+1):=by omega
 rw[e,e2,Nat.pow_succ,←Nat.div_div_eq_div_mul,Nat.testBit_eq_decide_div_mod_eq];generalize c/2^(8-(l+1))=q;have:=Nat.mod_two_eq_zero_or_one q;rcases this with h | h<;>simp[h]<;>omega
theorem hi_next{l:Nat}(hl:l<8)(c p:Nat)(b:Bool):hi (l+1) c=2*p+b.toNat↔hi l c=p∧tb l c=b:=by
 rw[hi_succ hl];cases b<;>cases tb l c<;>simp<;>omega
theorem hi_less{l:Nat}(hl:l<8)(c p:Nat):hi (l+1) c<2*p↔hi l c<p:=by
 rw[hi_succ hl];cases tb l c<;>simp<;>omega
theorem filt_or{α:Type}(L:List α)(f g h:α→Bool)(hf:∀x∈L,f x=(g x||h x))(hd:∀x∈L,¬(g x=true∧h x=true)):(L.filter f).length=(L.filter g).length+(L.filter h).length:=by
 induction L with
 | nil=>rfl
 | cons a L ih=>
  have i1:=ih (fun x hx=>hf x (List.mem_cons_of_mem _ hx)) (fun x hx=>hd x (List.mem_cons_of_mem _ hx));have i2:=hf a List.mem_cons_self;have i3:=hd a List.mem_cons_self
  rw[List.filter_cons,List.filter_cons,List.filter_cons,i2];cases h1:g a with
  | false=>
   cases h2:h a with
   | false=>simpa using i1
   | true=>simp;omega
  | true=>
   cases h2:h a with
   | false=>simp;omega
   | true=>exact absurd ⟨h1,h2⟩ i3
theorem st_zero(t:List Nat)(l:Nat):st t l 0=0:=by
 unfold st;rw[List.filter_eq_nil_iff.2 (fun a _=>by simp)];rfl
theorem tk_app{α:Type}(F X:List α)(n k:Nat)(h:F.length=n):(F++X).take (n+k)=F++X.take k:=by
 subst h;rw[List.take_append,List.take_of_length_le (by omega),show F.length+k-F.length=k by omega]
theorem st_flat(t:List Nat)(l p:Nat):((List.range p).flatMap (seg t l)).length=st t l p:=by
 induction p with
 | zero=>rw[st_zero];rfl
 | succ p ih=>
  rw[List.range_succ,List.flatMap_append,List.length_append,ih];simp only[List.flatMap_cons,List.flatMap_nil,List.append_nil];unfold st seg sg;refine(filt_or _ _ _ _ (fun x _=>?_) (fun x _=>?_)).symm
  ·rw[←Bool.decide_or];exact decide_eq_decide.2 (by omega)
  ·simp only[decide_eq_true_eq];omega
theorem st_succ(t:List Nat)(l p:Nat):st t l (p+1)=st t l p+(seg t l p).length:=by
 rw[←st_flat,←st_flat,List.range_succ,List.flatMap_append,List.length_append];simp
theorem st_le(t:List Nat)(l p:Nat):st t l p≤t.length:=by
 unfold st;exact Nat.le_trans (List.length_filter_le _ _) (by simp)
theorem length_plc(t:List Nat)(l:Nat)(hl:l≤8)(hb:Byt t):(plc t l).length=t.length:=by
 unfold plc;rw[st_flat];unfold st;rw[List.filter_eq_self.2]
 ·simp
 ·intro i _;exact decide_eq_true (hi_lt hl (hb i))
theorem rk_le(t:List Nat)(l p i:Nat):rk t l p i≤i:=by
 unfold rk sg;exact Nat.le_trans (List.length_filter_le _ _) (by simp)
theorem plc_parts(t:List Nat)(l p:Nat)(hp:p<2^l):∃R,plc t l=(List.range p).flatMap (seg t l)++(seg t l p++R):=by
 obtain⟨d,hd⟩:∃d,2^l=p+(1+d):=⟨2^l-(p+1),by omega⟩;refine⟨((List.range d).map (fun i=>p+1+i)).flatMap (seg t l),?_⟩;unfold plc
 rw[hd,List.range_add,List.flatMap_append,List.range_add,List.map_append,List.flatMap_append];simp[Function.comp_def,Nat.add_assoc]
theorem sg_take(t:List Nat)(l p i:Nat)(hi':i≤t.length):∃R,seg t l p=sg t l p i++R:=by
 refine⟨((List.range (t.length-i)).map (fun x=>i+x)).filter fun i=>decide (hi l (gt t i)=p),?_⟩;unfold seg sg;rw[show t.length=i+(t.length-i)by omega,List.range_add,List.filter_append];simp
theorem plc_take(t:List Nat)(l p i:Nat)(hp:p<2^l)(hi':i≤t.length):(plc t l).take (st t l p+rk t l p i)=(plc t l).take (st t l p)++sg t l p i:=by
 obtain⟨R,e⟩:=plc_parts t l p hp;obtain⟨S,e2⟩:=sg_take t l p i hi';have h1:=st_flat t l p;have a1:=tk_app _ (seg t l p++R) _ (rk t l p i) h1;have a2:=tk_app _ (seg t l p++R) _ 0 h1
 rw[Nat.add_zero,List.take_zero,List.append_nil]at a2;rw[e,a1,a2,e2,List.append_assoc];unfold rk;rw[List.take_left'];rfl
theorem plc_get(t:List Nat)(l j:Nat)(hl:l≤8)(hb:Byt t)(hj:j<t.length):(plc t l)[pos t l j]?=some j:=by
 obtain⟨R,e⟩:=plc_parts t l (hi l (gt t j)) (hi_lt hl (hb j));have h1:=st_flat t l (hi l (gt t j));unfold pos;rw[e,List.getElem?_append_right (by omega),h1,show ∀a b:Nat,a+b-a=b from fun a b=>by omega]
 unfold seg rk sg;rw[show t.length=j+(1+(t.length-(j+1)))by omega,List.range_add,List.filter_append,List.append_assoc,List.getElem?_append_right (by omega)]
 rw[Nat.sub_self,List.range_add,List.map_append,List.filter_append];simp
theorem pos_lt(t:List Nat)(l j:Nat)(hl:l≤8)(hb:Byt t)(hj:j<t.length):pos t l j<t.length:=by
 have:=(List.getElem?_eq_some_iff.1 (plc_get t l j hl hb hj)).1;rwa [length_plc t l hl hb]at this
theorem plc_nodup(t:List Nat)(l:Nat):(plc t l).Pairwise fun a b=>hi l (gt t a)<hi l (gt t b)∨(hi l (gt t a)=hi l (gt t b)∧a<b):=by
 unfold plc;rw[List.pairwise_flatMap];constructor
 ·intro p _;unfold seg sg;have h:(List.range t.length).Pairwise (·<·):=List.pairwise_lt_range;refine(List.Pairwise.filter _ h).imp_of_mem ?_;intro a b ha hb hlt;have h1:=(List.mem_filter.1 ha).2
  have h2:=(List.mem_filter.1 hb).2;simp only[decide_eq_true_eq]at h1 h2;exact .inr ⟨h1.trans h2.symm,hlt⟩
 ·refine List.Pairwise.imp ?_ (List.pairwise_lt_range (n:=2^l));intro p q hpq a ha b hb;unfold seg sg at ha hb;have h1:=(List.mem_filter.1 ha).2;have h2:=(List.mem_filter.1 hb).2;simp only[decide_eq_true_eq]at h1 h2
  exact .inl (by omega)
theorem plc_lt(t:List Nat)(l i x:Nat)(h:(plc t l)[i]?=some x):x<t.length:=by
 have:=List.mem_of_getElem? h;unfold plc seg sg at this;rw[List.mem_flatMap]at this;obtain⟨p,_,hp⟩:=this;exact List.mem_range.1 (List.mem_filter.1 hp).1
theorem plc_inj(t:List Nat)(l i k x:Nat)(h1:(plc t l)[i]?=some x)(h2:(plc t l)[k]?=some x):i=k:=by
 have h:=List.pairwise_iff_getElem.1 (plc_nodup t l);obtain⟨a1,b1⟩:=List.getElem?_eq_some_iff.1 h1;obtain⟨a2,b2⟩:=List.getElem?_eq_some_iff.1 h2;rcases Nat.lt_trichotomy i k with c | c | c
 ·have:=h i k a1 a2 c;rw[b1,b2]at this;omega
 ·exact c
 ·have:=h k i a2 a1 c;rw[b1,b2]at this;omega
theorem pos_plc(t:List Nat)(l i x:Nat)(hl:l≤8)(hb:Byt t)(h:(plc t l)[i]?=some x):pos t l x=i:=
 plc_inj t l _ _ x (plc_get t l x hl hb (plc_lt t l i x h)) h
theorem rb_pos(t:List Nat)(l j:Nat)(hl:l≤8)(hb:Byt t)(hj:j<t.length):rb t l (pos t l j)=tb l (gt t j):=by
 unfold rb;rw[List.getD_eq_getElem?_getD,plc_get t l j hl hb hj];rfl
theorem cB_take(xs:List Nat)(L:List Nat)(f:Nat→Bool)(b:Bool)(m:Nat)(hm:m≤L.length)(h:∀i,i<m→bitAt xs i=f (L.getD i 0)):cB xs b m=((L.take m).filter fun x=>f x==b).length:=by
 induction m with
 | zero=>have:=cB_le xs b 0;simp;omega
 | succ m ih=>
  rw[cB_succ,ih (by omega) (fun i hi=>h i (by omega)),h m (by omega),List.take_add_one,List.filter_append,List.length_append,List.getElem?_eq_getElem (by omega),List.getD_eq_getElem?_getD,List.getElem?_eq_getElem (by omega)]
  simp only[Option.getD_some,Option.toList_some,List.filter_cons,List.filter_nil];by_cases e:f L[m]=b<;>simp[e]
theorem cB_node(t xs:List Nat)(l p i:Nat)(b:Bool)(hl:l<8)(hb:Byt t)(hp:p<2^l)(hi':i≤t.length)(hx:∀k,k<t.length→bitAt xs k=rb t l k):
  cB xs b (st t l p+rk t l p i)=cB xs b (st t l p)+rk t (l+1) (2*p+b.toNat) i:=by
 have hln:=length_plc t l (by omega) hb
 have hle:st t l p+rk t l p i≤t.length:=by
  have e:=plc_take t l p i hp hi';have e2:=congrArg List.length e;have h1:=st_le t l p;rw[List.length_append,List.length_take,List.length_take,hln]at e2;unfold rk at *;omega
 rw[cB_take xs (plc t l) (fun x=>tb l (gt t x)) b _ (by omega) (fun k hk=>hx k (by omega)),cB_take xs (plc t l) (fun x=>tb l (gt t x)) b (st t l p) (by omega) (fun k hk=>hx k (by omega)),plc_take t l p i hp hi',List.filter_append,List.length_append]
 congr 1;unfold rk sg;rw[List.filter_filter];congr 1;refine List.filter_congr fun k _=>?_;rw[Bool.eq_iff_iff];simp only[Bool.and_eq_true,beq_iff_eq,decide_eq_true_eq];rw[hi_next hl]
 exact⟨fun h=>⟨h.2,h.1⟩,fun h=>⟨h.2,h.1⟩⟩
theorem rk_all(t:List Nat)(l p:Nat):rk t l p t.length=(seg t l p).length:=rfl
theorem st_zero_next(t:List Nat)(l p:Nat)(hl:l<8):st t (l+1) (2*p)=st t l p:=by
 unfold st;congr 1;refine List.filter_congr fun k _=>decide_eq_decide.2 (hi_less hl _ _)
theorem seg_parts(t:List Nat)(l p i:Nat)(hl:l<8):rk t l p i=rk t (l+1) (2*p) i+rk t (l+1) (2*p+1) i:=by
 unfold rk sg;refine filt_or _ _ _ _ (fun x _=>?_) (fun x _=>?_)
 ·rw[←Bool.decide_or];refine decide_eq_decide.2 ?_;rw[hi_succ hl];cases tb l (gt t x)<;>simp<;>omega
 ·simp only[decide_eq_true_eq];omega
theorem st_one_next(t:List Nat)(l p:Nat)(hl:l<8):st t (l+1) (2*p+1)+rk t (l+1) (2*p+1) t.length=st t l p+rk t l p t.length:=by
 rw[st_succ,st_zero_next t l p hl,seg_parts t l p _ hl,←rk_all];omega
theorem rk_zero(t:List Nat)(i:Nat)(hb:Byt t):rk t 0 0 i=i:=by
 unfold rk sg;rw[List.filter_eq_self.2]
 ·simp
 ·intro k _;exact decide_eq_true (hi_zero (hb k))
theorem st_root(t:List Nat):st t 0 0=0:=st_zero t 0
end Tw
namespace Tw
theorem gt_mapr(f:Nat→Nat)(n j:Nat)(h:j<n):gt ((List.range n).map f) j=f j:=by
 unfold gt;rw[List.getD_eq_getElem?_getD,List.getElem?_map,List.getElem?_range h];rfl
def tx(r:Nat→Nat→Bool)(n:Nat):Nat→List Nat
 | 0=>List.replicate n 0
 | l+1=>(List.range n).map fun j=>gt (tx r n l) j+if r l (pos (tx r n l) l j)then 2^(7-l)else 0
theorem length_tx(r:Nat→Nat→Bool)(n l:Nat):(tx r n l).length=n:=by
 cases l<;>simp[tx]
theorem gt_tx0(r:Nat→Nat→Bool)(n j:Nat):gt (tx r n 0) j=0:=by
 unfold tx gt;by_cases h:j<n
 ·simp[h]
 ·simp[h]
theorem gt_txs(r:Nat→Nat→Bool)(n l j:Nat)(h:j<n):gt (tx r n (l+1)) j=gt (tx r n l) j+if r l (pos (tx r n l) l j)then 2^(7-l)else 0:=by
 rw[tx];exact gt_mapr _ _ _ h
theorem tx_form(r:Nat→Nat→Bool)(n l j:Nat)(hl:l≤8):∃q,q<2^l∧gt (tx r n l) j=q*2^(8-l):=by
 induction l with
 | zero=>exact⟨0,Nat.two_pow_pos _,by rw[gt_tx0,Nat.zero_mul]⟩
 | succ l ih=>
  obtain⟨q,hq,e⟩:=ih (by omega);by_cases h:j<n
  ·have e2:2^(8-l)=2*2^(7-l):=by rw[show 8-l=(7-l)+1 by omega,Nat.pow_succ];omega
   refine⟨2*q+if r l (pos (tx r n l) l j)then 1 else 0,?_,?_⟩
   ·rw[Nat.pow_succ];split<;>omega
   ·rw[gt_txs r n l j h,e,e2,show 8-(l+1)=7-l by omega,Nat.add_mul];split
    ·rw[Nat.one_mul,Nat.mul_assoc 2 q,Nat.mul_left_comm 2 q]
    ·rw[Nat.zero_mul,Nat.mul_assoc 2 q,Nat.mul_left_comm 2 q]
  ·refine⟨0,Nat.two_pow_pos _,?_⟩;rw[gt_out _ _ (by rw[length_tx];omega)];simp
theorem byt_tx(r:Nat→Nat→Bool)(n l:Nat)(hl:l≤8):Byt (tx r n l):=fun j=>by
 obtain⟨q,hq,e⟩:=tx_form r n l j hl;rw[e];have h:q*2^(8-l)<2^l*2^(8-l):=(Nat.mul_lt_mul_right (Nat.two_pow_pos _)).2 hq;rw[←Nat.pow_add,show l+(8-l)=8 by omega]at h;exact h
theorem hi_form{l q x:Nat}(h:x<2^(8-l)):hi l (q*2^(8-l)+x)=q:=by
 unfold hi;rw[Nat.mul_comm,Nat.mul_add_div (Nat.two_pow_pos _),Nat.div_eq_of_lt h];rfl
theorem hi_tx(r:Nat→Nat→Bool)(n l j:Nat)(hl:l<8):hi l (gt (tx r n (l+1)) j)=hi l (gt (tx r n l) j):=by
 by_cases h:j<n
 ·obtain⟨q,hq,e⟩:=tx_form r n l j (by omega);have p:2^(7-l)<2^(8-l):=Nat.pow_lt_pow_right (by decide) (by omega);have p0:=Nat.two_pow_pos (7-l);rw[gt_txs r n l j h,e,hi_form (by split<;>omega)]
  have:=hi_form (l:=l) (q:=q) (x:=0) (Nat.two_pow_pos _);rw[Nat.add_zero]at this;exact this.symm
 ·rw[gt_out _ _ (by rw[length_tx];omega),gt_out _ _ (by rw[length_tx];omega)]
theorem hi_down{k l c d:Nat}(hk:k≤l)(hl:l≤8)(h:hi l c=hi l d):hi k c=hi k d:=by
 have e:∀x,hi k x=hi l x/2^(l-k):=fun x=>by
  unfold hi;rw[Nat.div_div_eq_div_mul,←Nat.pow_add,show 8-l+(l-k)=8-k by omega]
 rw[e,e,h]
theorem hi_txs(r:Nat→Nat→Bool)(n k d j:Nat)(hl:k+d≤8):hi k (gt (tx r n (k+d)) j)=hi k (gt (tx r n k) j):=by
 induction d with
 | zero=>rfl
 | succ d ih=>
  rw[←ih (by omega)];exact hi_down (show k≤k+d by omega) (by omega) (hi_tx r n (k+d) j (by omega))
theorem tb_hi{l:Nat}(hl:l<8){c d:Nat}(h:hi (l+1) c=hi (l+1) d):tb l c=tb l d:=by
 rw[hi_succ hl,hi_succ hl]at h;cases hc:tb l c<;>cases hd:tb l d<;>simp[hc,hd]at h⊢<;>omega
theorem tb_txs(r:Nat→Nat→Bool)(n l j:Nat)(hl:l<8)(hj:j<n):tb l (gt (tx r n (l+1)) j)=r l (pos (tx r n l) l j):=by
 obtain⟨q,hq,e⟩:=tx_form r n l j (by omega);have e2:2^(8-l)=2*2^(7-l):=by rw[show 8-l=(7-l)+1 by omega,Nat.pow_succ];omega
 unfold tb;rw[gt_txs r n l j hj,e,e2,Nat.testBit_eq_decide_div_mod_eq];have p0:=Nat.two_pow_pos (7-l);cases r l (pos (tx r n l) l j)with
 | true=>
  rw[if_pos rfl,show q*(2*2^(7-l))+2^(7-l)=2^(7-l)*(2*q+1)by rw[Nat.mul_add,Nat.mul_one,Nat.mul_left_comm q,Nat.mul_left_comm (2^(7-l)) 2 q,Nat.mul_comm q],Nat.mul_div_cancel_left _ p0]
  exact decide_eq_true (by omega)
 | false=>
  rw[if_neg (by decide),Nat.add_zero,show q*(2*2^(7-l))=2^(7-l)*(2*q)by rw[Nat.mul_left_comm q,Nat.mul_left_comm (2^(7-l)) 2 q,Nat.mul_comm q],Nat.mul_div_cancel_left _ p0]
  exact decide_eq_false (by omega)
theorem sg_congr{t u:List Nat}{l:Nat}(p m:Nat)(h:∀i,i<m→hi l (gt t i)=hi l (gt u i)):sg t l p m=sg u l p m:=by
 unfold sg;exact List.filter_congr fun i hi'=>by rw[h i (List.mem_range.1 hi')]
theorem plc_congr{t u:List Nat}{l:Nat}(hl:t.length=u.length)(h:∀i,i<t.length→hi l (gt t i)=hi l (gt u i)):plc t l=plc u l:=by
 unfold plc seg;congr 1;funext p;rw[←hl];exact sg_congr p _ h
theorem pos_congr{t u:List Nat}{l:Nat}(hl:t.length=u.length)(h:∀i,i<t.length→hi l (gt t i)=hi l (gt u i))(j:Nat)(hj:j<t.length):pos t l j=pos u l j:=by
 unfold pos st rk;rw[h j hj,sg_congr _ j (fun i hi'=>h i (by omega)),←hl];congr 1;rw[List.filter_congr fun i hi'=>by rw[h i (List.mem_range.1 hi')]]
theorem rb_tx(r:Nat→Nat→Bool)(n l i:Nat)(hl:l<8)(hi':i<n):rb (tx r n 8) l i=r l i:=by
 have hln:(tx r n 8).length=(tx r n l).length:=by rw[length_tx,length_tx]
 have hh:∀j,hi l (gt (tx r n 8) j)=hi l (gt (tx r n l) j):=fun j=>by
  have:=hi_txs r n l (8-l) j (by omega);rwa [show l+(8-l)=8 by omega]at this
 have hp:=plc_congr hln (fun j _=>hh j);have hlen:=length_plc (tx r n l) l (by omega) (byt_tx r n l (by omega));rw[length_tx]at hlen;unfold rb
 rw[hp,List.getD_eq_getElem?_getD,List.getElem?_eq_getElem (by omega),Option.getD_some];have hg:(plc (tx r n l) l)[i]?=some (plc (tx r n l) l)[i]:=List.getElem?_eq_getElem (by omega)
 generalize (plc (tx r n l) l)[i]=x at hg⊢;have hx:=plc_lt _ _ _ _ hg;rw[length_tx]at hx
 have hb:tb l (gt (tx r n 8) x)=tb l (gt (tx r n (l+1)) x):=tb_hi hl (by
  have:=hi_txs r n (l+1) (8-(l+1)) x (by omega)
  rwa [show l+1+(8-(l+1))=8 by omega]at this)
 rw[hb,tb_txs r n l x hl hx,pos_plc _ l i x (by omega) (byt_tx r n l (by omega)) hg]
theorem tx_hi(r:Nat→Nat→Bool)(t:List Nat)(hb:Byt t)(hr:∀l i,l<8→i<t.length→r l i=rb t l i)(l j:Nat)(hl:l≤8)(hj:j<t.length):gt (tx r t.length l) j=hi l (gt t j)*2^(8-l):=by
 induction l generalizing j with
 | zero=>rw[gt_tx0,hi_zero (hb j),Nat.zero_mul]
 | succ l ih=>
  have hln:(tx r t.length l).length=t.length:=length_tx _ _ _
  have hh:∀i,i<(tx r t.length l).length→hi l (gt (tx r t.length l) i)=hi l (gt t i):=fun i hi'=>by
   rw[hln]at hi';rw[ih i (by omega) hi'];have:=hi_form (l:=l) (q:=hi l (gt t i)) (x:=0) (Nat.two_pow_pos _);rwa [Nat.add_zero]at this
  have hp:=pos_congr hln hh j (by omega);rw[gt_txs r _ l j hj,ih j (by omega) hj,hp,hr l _ (by omega) (pos_lt t l j (by omega) hb hj),rb_pos t l j (by omega) hb hj,hi_succ (by omega)]
  have e2:2^(8-l)=2*2^(7-l):=by rw[show 8-l=(7-l)+1 by omega,Nat.pow_succ];omega
  rw[e2,show 8-(l+1)=7-l by omega,Nat.add_mul,Nat.mul_left_comm,Nat.mul_assoc];cases tb l (gt t j)<;>simp
theorem tx_of(r:Nat→Nat→Bool)(t:List Nat)(hb:Byt t)(hr:∀l i,l<8→i<t.length→r l i=rb t l i):tx r t.length 8=t:=by
 refine list_ext _ _ (length_tx _ _ _) fun j hj=>?_;rw[length_tx]at hj;rw[tx_hi r t hb hr 8 j (by omega) hj,hi_eight];simp
def tm(r:Nat→Nat→Bool)(n l i:Nat):List Nat:=(List.range n).map fun j=>gt (tx r n l) j+if (decide (pos (tx r n l) l j<i)&&r l (pos (tx r n l) l j))then 2^(7-l)else 0
theorem length_tm(r:Nat→Nat→Bool)(n l i:Nat):(tm r n l i).length=n:=by simp[tm]
theorem tm_zero(r:Nat→Nat→Bool)(n l:Nat):tm r n l 0=tx r n l:=by
 refine list_ext _ _ (by rw[length_tm,length_tx]) fun j hj=>?_;rw[length_tm]at hj;unfold tm;rw[gt_mapr _ _ _ hj];simp
theorem tm_all(r:Nat→Nat→Bool)(n l:Nat)(hl:l<8):tm r n l n=tx r n (l+1):=by
 refine list_ext _ _ (by rw[length_tm,length_tx]) fun j hj=>?_;rw[length_tm]at hj;have hp:=pos_lt (tx r n l) l j (by omega) (byt_tx r n l (by omega)) (by rw[length_tx];exact hj);rw[length_tx]at hp;unfold tm
 rw[gt_mapr _ _ _ hj,gt_txs r n l j hj,show decide (pos (tx r n l) l j<n)=true from decide_eq_true hp,Bool.true_and]
theorem tm_gt(r:Nat→Nat→Bool)(n l i x:Nat)(hl:l<8)(hg:(plc (tx r n l) l)[i]?=some x):x<n∧gt (tm r n l i) x=gt (tx r n l) x:=by
 have hx:=plc_lt _ _ _ _ hg;rw[length_tx]at hx;refine⟨hx,?_⟩;unfold tm;rw[gt_mapr _ _ _ hx,pos_plc _ l i x (by omega) (byt_tx r n l (by omega)) hg];simp
theorem or_add(r:Nat→Nat→Bool)(n l x:Nat)(hl:l<8):gt (tx r n l) x|||2^(7-l)=gt (tx r n l) x+2^(7-l):=by
 obtain⟨q,hq,e⟩:=tx_form r n l x (by omega);have p:2^(7-l)<2^(8-l):=Nat.pow_lt_pow_right (by decide) (by omega);rw[e,Nat.mul_comm,←Nat.two_pow_add_eq_or_of_lt p]
theorem tm_set(r:Nat→Nat→Bool)(n l i x:Nat)(hl:l<8)(hg:(plc (tx r n l) l)[i]?=some x)(hr:r l i=true):(tm r n l i).set x (gt (tm r n l i) x|||2^(7-l))=tm r n l (i+1):=by
 obtain⟨hx,e⟩:=tm_gt r n l i x hl hg;have hp:=pos_plc _ l i x (by omega) (byt_tx r n l (by omega)) hg;refine list_ext _ _ (by rw[List.length_set,length_tm,length_tm]) fun j hj=>?_;rw[List.length_set,length_tm]at hj
 rw[gt_set _ _ _ _ (by rw[length_tm];exact hx),e,or_add r n l x hl];unfold tm;rw[gt_mapr _ _ _ hj,gt_mapr _ _ _ hj];by_cases c:x=j
 ·subst c;rw[if_pos rfl,hp,hr];simp
 ·rw[if_neg c]
  have:pos (tx r n l) l j≠i:=fun h=>by
   have a:=plc_get (tx r n l) l j (by omega) (byt_tx r n l (by omega)) (by rw[length_tx];exact hj);rw[h,hg]at a;exact c (by injection a)
  rw[show decide (pos (tx r n l) l j<i+1)=decide (pos (tx r n l) l j<i)from decide_eq_decide.2 (by omega)]
theorem tm_skip(r:Nat→Nat→Bool)(n l i:Nat)(hl:l<8)(hr:r l i=false):tm r n l i=tm r n l (i+1):=by
 refine list_ext _ _ (by rw[length_tm,length_tm]) fun j hj=>?_;rw[length_tm]at hj;unfold tm;rw[gt_mapr _ _ _ hj,gt_mapr _ _ _ hj];by_cases c:pos (tx r n l) l j=i
 ·rw[c,hr];simp
 ·rw[show decide (pos (tx r n l) l j<i+1)=decide (pos (tx r n l) l j<i)from decide_eq_decide.2 (by omega)]
theorem rk_succ(t:List Nat)(l p i:Nat):rk t l p (i+1)=rk t l p i+if hi l (gt t i)=p then 1 else 0:=by
 unfold rk sg;rw[List.range_succ,List.filter_append,List.length_append];congr 1;by_cases h:hi l (gt t i)=p<;>simp[h]
def cn(t:List Nat)(c i:Nat):Nat:=rk t 8 c i
theorem cn_zero(t:List Nat)(c:Nat):cn t c 0=0:=rfl
theorem cn_succ(t:List Nat)(c i:Nat):cn t c (i+1)=cn t c i+if gt t i=c then 1 else 0:=by
 unfold cn;rw[rk_succ,hi_eight]
theorem cn_le(t:List Nat)(c i:Nat):cn t c i≤i:=rk_le _ _ _ _
theorem cn_mono(t:List Nat)(c i d:Nat):cn t c i≤cn t c (i+d):=by
 induction d with
 | zero=>exact Nat.le_refl _
 | succ d ih=>have:=cn_succ t c (i+d);rw[show i+(d+1)=i+d+1 by omega];omega
def hr(t:List Nat)(c:Nat)(k:Int)(i:Nat):Bool:=decide (gt t i=c)&&decide ((cn t c i:Int)=k)
def sel(t:List Nat)(c:Nat)(k:Int):Option Nat:=(List.range t.length).find? (hr t c k)
theorem hr_one(t:List Nat)(c:Nat)(k:Int)(i j:Nat)(h1:hr t c k i=true)(h2:hr t c k j=true):i=j:=by
 unfold hr at h1 h2;simp only[Bool.and_eq_true,decide_eq_true_eq]at h1 h2;rcases Nat.lt_trichotomy i j with d | d | d
 ·have a:=cn_succ t c i;rw[if_pos h1.1]at a;have b:=cn_mono t c (i+1) (j-(i+1));rw[show i+1+(j-(i+1))=j by omega]at b;omega
 ·exact d
 ·have a:=cn_succ t c j;rw[if_pos h2.1]at a;have b:=cn_mono t c (j+1) (i-(j+1));rw[show j+1+(i-(j+1))=i by omega]at b;omega
theorem sel_some(t:List Nat)(c:Nat)(k:Int)(i:Nat)(hi':i<t.length)(h:hr t c k i=true):sel t c k=some i:=by
 unfold sel;cases hf:(List.range t.length).find? (hr t c k)with
 | none=>
  rw[List.find?_eq_none]at hf;exact absurd h (by simpa using hf i (List.mem_range.2 hi'))
 | some j=>rw[hr_one t c k i j h (List.find?_some hf)]
theorem sel_none(t:List Nat)(c:Nat)(k:Int)(h:∀i,i<t.length→hr t c k i=false):sel t c k=none:=by
 unfold sel;rw[List.find?_eq_none];intro i hi';rw[h i (List.mem_range.1 hi')];decide
theorem sel_spec(t:List Nat)(c:Nat)(k:Int)(i:Nat)(h:sel t c k=some i):i<t.length∧gt t i=c∧(cn t c i:Int)=k:=by
 unfold sel at h;have a:=List.find?_some h;have b:=List.mem_range.1 (List.mem_of_find?_eq_some h);unfold hr at a;simp only[Bool.and_eq_true,decide_eq_true_eq]at a;exact⟨b,a.1,a.2⟩
theorem sel_is(t:List Nat)(c:Nat)(k:Nat)(n:Nat)(hn:n≤t.length)(h:k<cn t c n):∃i,i<n∧gt t i=c∧cn t c i=k:=by
 induction n with
 | zero=>rw[cn_zero]at h;omega
 | succ n ih=>
  rw[cn_succ]at h;by_cases d:k<cn t c n
  ·obtain⟨i,a,b⟩:=ih (by omega) d;exact⟨i,by omega,b⟩
  ·by_cases e:gt t n=c
   ·rw[if_pos e]at h;exact⟨n,by omega,e,by omega⟩
   ·rw[if_neg e]at h;omega
theorem sel_iff(t:List Nat)(c:Nat)(k:Int):(sel t c k).isSome=true↔0≤k∧k<(cn t c t.length:Int):=by
 constructor
 ·intro h;obtain⟨i,hi'⟩:=Option.isSome_iff_exists.1 h;obtain⟨h1,h2,h3⟩:=sel_spec t c k i hi';have a:=cn_succ t c i;rw[if_pos h2]at a;have b:=cn_mono t c (i+1) (t.length-(i+1))
  rw[show i+1+(t.length-(i+1))=t.length by omega]at b;omega
 ·rintro⟨h0,h1⟩;obtain⟨m,rfl⟩:=Int.eq_ofNat_of_zero_le h0;obtain⟨i,a,b,d⟩:=sel_is t c m t.length (Nat.le_refl _) (by omega);rw[sel_some t c m i a (by unfold hr;simp[b,d])];rfl
end Tw
end Go.Proofs.YtfnkklkdajlhlaaGreatDoor
namespace Go.Proofs.YtfnkklkdajlhlaaGreatDoor
open Go.RowKit Num Bit
theorem Hid.mkt{p:Prop}(h:p):Hid p:=h
def Bd(w:World)(ao:Option Addr)(t:List Nat):Prop:=
 0<t.length→∃b off,ao=some ⟨b,off,none⟩∧b<w.heap.size∧∀i,i<t.length→w.cell? ⟨b,off+i,none⟩=some (.int .u8 (gt t i))
theorem Bd.keep{w w':World}{ao:Option Addr}{t:List Nat}(h:Bd w ao t)(hb:Below w.heap.size w w'):Bd w' ao t:=by
 intro hi;obtain⟨b,off,e,hlt,hc⟩:=h hi;exact⟨b,off,e,Nat.lt_of_lt_of_le hlt hb.size,fun i hi=>(hb.cell (p:=⟨b,off+i,none⟩) hlt).trans (hc i hi)⟩
theorem bd0(w:World)(ao:Option Addr):Bd w ao []:=fun h=>absurd h (by simp)
theorem wgt_c(l:Nat)(hl:l<8)(w:World):Qx 33 #[.int .i64 l] w (.int .u8 ((2^(7-l):Nat):Int)):=by
 have:l=0∨l=1∨l=2∨l=3∨l=4∨l=5∨l=6∨l=7:=by omega
 rcases this with rfl | rfl | rfl | rfl | rfl | rfl | rfl | rfl<;>
 ·go_enter Tryz.func33,Tryz.ntmps33;go_wp2;go_ret;exact⟨rfl,rfl⟩
theorem and8:∀(c:Fin 256) (l:Fin 8),(bits .and .u8 (c.val:Int) ((2^(7-l.val):Nat):Int) != 0)=Tw.tb l.val c.val:=by decide +kernel
theorem bitOf_c(c l:Nat)(hc:c<256)(hl:l<8)(w:World):Qx 37 #[.int .u8 c,.int .i64 l] w (.bool (Tw.tb l c)):=by
 have e:=and8 ⟨c,hc⟩ ⟨l,hl⟩;have hw:(2:Nat)^(7-l)≤128:=Nat.le_trans (Nat.pow_le_pow_right (by decide) (show 7-l≤7 by omega)) (by decide)
 have H:Hid (∀w0,Qx 33 #[.int .i64 l] w0 (.int .u8 ((2^(7-l):Nat):Int))):=fun w0=>wgt_c l hl w0;dsimp only at e;generalize (2:Nat)^(7-l)=W at *;rw[←e]
 clear e;go_enter Tryz.func37,Tryz.ntmps37;go_wp2_with fail;refine mr (H.out _) fun w1 h1=>?_;rw[h1];go_wp2;go_ret;exact⟨rfl,rfl⟩
end Go.Proofs.YtfnkklkdajlhlaaGreatDoor
