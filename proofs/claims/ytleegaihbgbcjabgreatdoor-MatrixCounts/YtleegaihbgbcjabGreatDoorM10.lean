import Derived.Test.YtleegaihbgbcjabGreatDoorM09
import Derived.Deep.MidRow
set_option linter.unusedVariables false
set_option linter.unusedSimpArgs false
set_option maxRecDepth 100000
set_option maxHeartbeats 16000000
namespace Go.Proofs.YtleegaihbgbcjabGreatDoor
open Go.RowKit Go.Shelf Num Bit
theorem access_k9(cs:List Value)(a:RA9)(i:Int)(w:World)(h:KI9 w cs a)(hi:I64 i):
  Calls Tryz.prog 58 #[.agg cs.toArray,.int .i64 i] w fun e w'=>e=.returned (.tuple #[.bool (gaB (kOk9 a) (kBN9 a) (kBX9 a) i),.int .i64 (gaE (kOk9 a) (kBN9 a) (kBX9 a) i)])∧Below w.heap.size w w':=by
 obtain⟨P1,hP1⟩:∃P:Bool,Hid (P=gaB (kOk9 a) (kBN9 a) (kBX9 a) i):=⟨gaB (kOk9 a) (kBN9 a) (kBX9 a) i,(rfl:gaB (kOk9 a) (kBN9 a) (kBX9 a) i=gaB (kOk9 a) (kBN9 a) (kBX9 a) i)⟩
 obtain⟨P2,hP2⟩:∃P:Int,Hid (P=gaE (kOk9 a) (kBN9 a) (kBX9 a) i):=⟨gaE (kOk9 a) (kBN9 a) (kBX9 a) i,(rfl:gaE (kOk9 a) (kBN9 a) (kBX9 a) i=gaE (kOk9 a) (kBN9 a) (kBX9 a) i)⟩;rw[←hP1.out,←hP2.out]
 cases hk:kOk9 a with
 | false=>
  have CC:=check_is h false hk
  have E:Hid (P1=false∧P2=2):=by
   show _∧_;rw[hP1.out,hP2.out];unfold gaB gaE;rw[hk];exact⟨rfl,rfl⟩
  obtain⟨⟨ao,cap,qo,dap,rfl,_⟩,_⟩:=h;obtain⟨N,M,k,V,LM,xs,H,ys⟩:=a;dsimp only at *;clear hP1 hP2
  obtain⟨W,hW⟩:∃W,W=w.alloc (.cells #[.int .i64 N,.int .i64 M,.int .i64 k,.int .i64 V,.int .i64 LM,.slice ao xs.length cap,.int .i64 H,.slice qo ys.length dap] 61):=⟨_,rfl⟩;have bW:=yb1 hW;have B1:=yc1 hW
  go_enter Tryz.func58,Tryz.ntmps58;go_wp2_with fail;rw[←hW];refine(CC.out _ bW).mono ?_;rintro e w1 ⟨rfl,hb⟩;have bw1:=bW.trans (hb.mono bW.size);replace B1:=B1.kept hb;clear hb CC hW bW;go_wp2;go_ret2
  rw[E.out.1,E.out.2];exact⟨rfl,bw1⟩
 | true=>
  have CC:=check_is h true hk;have hck:=kB_chk9 a hk;obtain⟨n,mm,kn,vn,hh,LM,xs,ys,rfl⟩:=kOk_nat a hk;obtain⟨F,hl,hg,hr⟩:=ok_fits n mm kn vn hh LM xs ys hk
  have e1:kBN9 ⟨n,mm,kn,vn,LM,xs,hh,ys⟩=(n:Int):=by unfold kBN9;rw[if_pos hk]
  have e2:kBX9 ⟨n,mm,kn,vn,LM,xs,hh,ys⟩=rowOf n (isIn (kRow ⟨n,mm,kn,vn,LM,xs,hh,ys⟩)):=by unfold kBX9;rw[if_pos hk];rfl
  rw[e1,e2]at hck;rw[hk,e1,e2]at hP1;rw[hk,e1,e2]at hP2;generalize kRow ⟨n,mm,kn,vn,LM,xs,hh,ys⟩=l at *;obtain⟨⟨ao,cap,qo,dap,rfl,ir,a1,a2,a3,a4,a5,a6⟩,n3,xl,yl⟩:=h;dsimp only at *
  have nl:=F.hn;have ml:=F.hm;clear hk e1 e2 n3 xl yl ir
  obtain⟨W,hW⟩:∃W,W=w.alloc (.cells #[.int .i64 (n:Nat),.int .i64 (mm:Nat),.int .i64 (kn:Nat),.int .i64 (vn:Nat),.int .i64 LM,.slice ao xs.length cap,.int .i64 (hh:Nat),.slice qo ys.length dap] 61):=⟨_,rfl⟩
  have bW:=yb1 hW;have B1:=yc1 hW;by_cases i0:i<0∨(n:Int)≤i
  ·have E:Hid (P1=false∧P2=3):=by
    show _∧_;rw[hP1.out,hP2.out];unfold gaB gaE getB getE;rw[hck,if_pos rfl,if_neg (by simp),if_pos i0,decide_eq_false (by omega)];exact⟨rfl,rfl⟩
   clear hP1 hP2 hck hl hg hr F a1 a4 a2 a5;rcases i0 with i0 | i0
   ·skip;go_enter Tryz.func58,Tryz.ntmps58;go_wp2_with fail;rw[←hW];refine(CC.out _ bW).mono ?_;rintro e w1 ⟨rfl,hb⟩;have bw1:=bW.trans (hb.mono bW.size);replace B1:=B1.kept hb;clear hb CC hW bW
    have q0:=B1.cell 0 rfl;go_wp2;go_ret2;rw[E.out.1,E.out.2];exact⟨rfl,bw1⟩
   ·skip;have i1:¬i<0:=by omega
    go_enter Tryz.func58,Tryz.ntmps58;go_wp2_with fail;rw[←hW];refine(CC.out _ bW).mono ?_;rintro e w1 ⟨rfl,hb⟩;have bw1:=bW.trans (hb.mono bW.size);replace B1:=B1.kept hb;clear hb CC hW bW;have q0:=B1.cell 0 rfl
    go_wp2;go_ret2;rw[E.out.1,E.out.2];exact⟨rfl,bw1⟩
  ·obtain⟨j,rfl⟩:=Int.eq_ofNat_of_zero_le (show 0≤i by omega)
   have E:Hid (P1=isIn l j∧P2=0):=by
    show _∧_;rw[hP1.out,hP2.out];unfold gaB gaE getB getE;rw[hck,if_pos rfl,if_neg (by simp),if_neg i0,decide_eq_true (by omega),Int.toNat_natCast,bit_row n l hr];exact⟨rfl,rfl⟩
   have C2:Hid (∀w0,Below w.heap.size w w0→Calls Tryz.prog 104 #[.agg #[.int .i64 (n:Nat),.int .i64 (mm:Nat),.int .i64 (kn:Nat),.int .i64 (vn:Nat),.int .i64 LM,.slice ao xs.length cap,.int .i64 (hh:Nat),.slice qo ys.length dap],.int .i64 (j:Nat)] w0 fun e w'=>e=.returned (.bool (isIn l j))∧Below w0.heap.size w0 w'):=fun w0 hb=>gisOne_c n mm kn vn hh LM ao xs cap qo ys dap l w0 F (a1.keep hb) a2 (a4.keep hb) a5 hl hg hr j (by omega)
   have i1:¬(j:Int)<0:=by omega
   have i2:¬(n:Int)≤(j:Int):=by omega
   clear hP1 hP2 hck hl hg hr F a1 a4 a2 a5 i0;go_enter Tryz.func58,Tryz.ntmps58;go_wp2_with fail;rw[←hW];refine(CC.out _ bW).mono ?_;rintro e w1 ⟨rfl,hb⟩;have bw1:=bW.trans (hb.mono bW.size);replace B1:=B1.kept hb
   clear hb CC hW bW;have q0:=B1.cell 0 rfl;have q1:=B1.cell 1 rfl;have q2:=B1.cell 2 rfl;have q3:=B1.cell 3 rfl;have q4:=B1.cell 4 rfl;have q5:=B1.cell 5 rfl;have q6:=B1.cell 6 rfl;have q7:=B1.cell 7 rfl
   go_wp2_with fail;refine(C2.out _ bw1).mono ?_;rintro e w2 ⟨rfl,hb⟩;have bw2:=bw1.trans (hb.mono bw1.size);clear hb;go_wp2;go_ret2;rw[E.out.1,E.out.2];exact⟨rfl,bw2⟩
theorem rank_k9(cs:List Value)(a:RA9)(bit:Bool)(i:Int)(w:World)(h:KI9 w cs a)(hi:I64 i):
  Calls Tryz.prog 78 #[.agg cs.toArray,.bool bit,.int .i64 i] w fun e w'=>e=.returned (.tuple #[.int .i64 (grN (kOk9 a) (kBN9 a) (kBX9 a) bit i),.int .i64 (grE (kOk9 a) (kBN9 a) i)])∧Below w.heap.size w w':=by
 obtain⟨P1,hP1⟩:∃P:Int,Hid (P=grN (kOk9 a) (kBN9 a) (kBX9 a) bit i):=⟨grN (kOk9 a) (kBN9 a) (kBX9 a) bit i,(rfl:grN (kOk9 a) (kBN9 a) (kBX9 a) bit i=grN (kOk9 a) (kBN9 a) (kBX9 a) bit i)⟩
 obtain⟨P2,hP2⟩:∃P:Int,Hid (P=grE (kOk9 a) (kBN9 a) i):=⟨grE (kOk9 a) (kBN9 a) i,(rfl:grE (kOk9 a) (kBN9 a) i=grE (kOk9 a) (kBN9 a) i)⟩;rw[←hP1.out,←hP2.out];cases hk:kOk9 a with
 | false=>
  have CC:=check_is h false hk
  have E:Hid (P1=0∧P2=2):=by
   show _∧_;rw[hP1.out,hP2.out];unfold grN grE;rw[hk];exact⟨rfl,rfl⟩
  obtain⟨⟨ao,cap,qo,dap,rfl,_⟩,_⟩:=h;obtain⟨N,M,k,V,LM,xs,H,ys⟩:=a;dsimp only at *;clear hP1 hP2
  obtain⟨W,hW⟩:∃W,W=w.alloc (.cells #[.int .i64 N,.int .i64 M,.int .i64 k,.int .i64 V,.int .i64 LM,.slice ao xs.length cap,.int .i64 H,.slice qo ys.length dap] 61):=⟨_,rfl⟩;have bW:=yb1 hW;have B1:=yc1 hW
  go_enter Tryz.func78,Tryz.ntmps78;go_wp2_with fail;rw[←hW];refine(CC.out _ bW).mono ?_;rintro e w1 ⟨rfl,hb⟩;have bw1:=bW.trans (hb.mono bW.size);replace B1:=B1.kept hb;clear hb CC hW bW;go_wp2;go_ret2
  rw[E.out.1,E.out.2];exact⟨rfl,bw1⟩
 | true=>
  have CC:=check_is h true hk;have hck:=kB_chk9 a hk;obtain⟨n,mm,kn,vn,hh,LM,xs,ys,rfl⟩:=kOk_nat a hk;obtain⟨F,hl,hg,hr⟩:=ok_fits n mm kn vn hh LM xs ys hk
  have e1:kBN9 ⟨n,mm,kn,vn,LM,xs,hh,ys⟩=(n:Int):=by unfold kBN9;rw[if_pos hk]
  have e2:kBX9 ⟨n,mm,kn,vn,LM,xs,hh,ys⟩=rowOf n (isIn (kRow ⟨n,mm,kn,vn,LM,xs,hh,ys⟩)):=by unfold kBX9;rw[if_pos hk];rfl
  rw[e1,e2]at hck;rw[hk,e1,e2]at hP1;rw[hk,e1]at hP2;generalize kRow ⟨n,mm,kn,vn,LM,xs,hh,ys⟩=l at *;obtain⟨⟨ao,cap,qo,dap,rfl,ir,a1,a2,a3,a4,a5,a6⟩,n3,xl,yl⟩:=h;dsimp only at *;have nl:=F.hn
  have ml:=F.hm;clear hk e1 e2 n3 xl yl ir
  obtain⟨W,hW⟩:∃W,W=w.alloc (.cells #[.int .i64 (n:Nat),.int .i64 (mm:Nat),.int .i64 (kn:Nat),.int .i64 (vn:Nat),.int .i64 LM,.slice ao xs.length cap,.int .i64 (hh:Nat),.slice qo ys.length dap] 61):=⟨_,rfl⟩
  have bW:=yb1 hW;have B1:=yc1 hW;by_cases i0:i<0∨(n:Int)<i
  ·have E:Hid (P1=0∧P2=3):=by
    show _∧_;rw[hP1.out,hP2.out];unfold grN grE;rw[if_pos rfl,if_pos i0];exact⟨rfl,rfl⟩
   clear hP1 hP2 hck hl hg hr F a1 a4 a2 a5;rcases i0 with i0 | i0
   ·skip;go_enter Tryz.func78,Tryz.ntmps78;go_wp2_with fail;rw[←hW];refine(CC.out _ bW).mono ?_;rintro e w1 ⟨rfl,hb⟩;have bw1:=bW.trans (hb.mono bW.size);replace B1:=B1.kept hb;clear hb CC hW bW
    have q0:=B1.cell 0 rfl;go_wp2;go_ret2;rw[E.out.1,E.out.2];exact⟨rfl,bw1⟩
   ·skip;have i1:¬i<0:=by omega
    go_enter Tryz.func78,Tryz.ntmps78;go_wp2_with fail;rw[←hW];refine(CC.out _ bW).mono ?_;rintro e w1 ⟨rfl,hb⟩;have bw1:=bW.trans (hb.mono bW.size);replace B1:=B1.kept hb;clear hb CC hW bW;have q0:=B1.cell 0 rfl
    go_wp2;go_ret2;rw[E.out.1,E.out.2];exact⟨rfl,bw1⟩
  ·obtain⟨j,rfl⟩:=Int.eq_ofNat_of_zero_le (show 0≤i by omega);obtain⟨c,hc⟩:∃c,c=cntB (rowOf n (isIn l)) j:=⟨_,rfl⟩;have cj:c≤j:=by rw[hc];exact cntB_le _ _
   have E:Hid (P1=((if bit then c else j-c:Nat):Int)∧P2=0):=by
    show _∧_;rw[hP1.out,hP2.out];unfold grN grE;rw[if_pos rfl,if_neg i0,if_pos rfl,Int.toNat_natCast];unfold cB;rw[←hc];exact⟨rfl,rfl⟩
   have C2:Hid (∀w0,Below w.heap.size w w0→Calls Tryz.prog 129 #[.agg #[.int .i64 (n:Nat),.int .i64 (mm:Nat),.int .i64 (kn:Nat),.int .i64 (vn:Nat),.int .i64 LM,.slice ao xs.length cap,.int .i64 (hh:Nat),.slice qo ys.length dap],.int .i64 (j:Nat)] w0 fun e w'=>e=.returned (.int .i64 (c:Nat))∧Below w0.heap.size w0 w'):=fun w0 hb=>gones_c n mm kn vn hh LM ao xs cap qo ys dap l w0 F (a1.keep hb) a2 (a4.keep hb) a5 hl hg hr j (by omega) c (by rw[hc];exact cut_cnt hr j)
   have C3:Hid (∀w0,Calls Tryz.prog 128 #[.bool bit,.int .i64 (j:Nat),.int .i64 (c:Nat)] w0 fun e w'=>e=.returned (.int .i64 ((if bit then c else j-c:Nat):Int))∧w'=w0):=fun w0=>gofBit_c bit j c (by omega) cj w0
   have i1:¬(j:Int)<0:=by omega
   have i2:¬(n:Int)<(j:Int):=by omega
   clear hP1 hP2 hck hl hg hr F a1 a4 a2 a5 i0 hc;generalize (if bit then c else j-c:Nat)=R at *;go_enter Tryz.func78,Tryz.ntmps78;go_wp2_with fail;rw[←hW];refine(CC.out _ bW).mono ?_;rintro e w1 ⟨rfl,hb⟩
   have bw1:=bW.trans (hb.mono bW.size);replace B1:=B1.kept hb;clear hb CC hW bW;have q0:=B1.cell 0 rfl;have q1:=B1.cell 1 rfl;have q2:=B1.cell 2 rfl;have q3:=B1.cell 3 rfl;have q4:=B1.cell 4 rfl
   have q5:=B1.cell 5 rfl;have q6:=B1.cell 6 rfl;have q7:=B1.cell 7 rfl;go_wp2_with fail;refine(C2.out _ bw1).mono ?_;rintro e w2 ⟨rfl,hb⟩;have bw2:=bw1.trans (hb.mono bw1.size);clear hb;go_wp2_with fail
   refine(C3.out _).mono ?_;rintro e w3 ⟨rfl,h3⟩;rw[h3];clear h3 w3;go_wp2;go_ret2;rw[E.out.1,E.out.2];exact⟨rfl,bw2⟩
theorem select_k9(cs:List Value)(a:RA9)(bit:Bool)(k:Int)(w:World)(h:KI9 w cs a)(hi:I64 k):
  Calls Tryz.prog 125 #[.agg cs.toArray,.bool bit,.int .i64 k] w fun e w'=>e=.returned (.tuple #[.int .i64 (gsX (kOk9 a) (kBN9 a) (kBX9 a) bit k),.int .i64 (gsE (kOk9 a) (kBN9 a) (kBX9 a) bit k)])∧Below w.heap.size w w':=by
 obtain⟨P1,hP1⟩:∃P:Int,Hid (P=gsX (kOk9 a) (kBN9 a) (kBX9 a) bit k):=⟨gsX (kOk9 a) (kBN9 a) (kBX9 a) bit k,(rfl:gsX (kOk9 a) (kBN9 a) (kBX9 a) bit k=gsX (kOk9 a) (kBN9 a) (kBX9 a) bit k)⟩
 obtain⟨P2,hP2⟩:∃P:Int,Hid (P=gsE (kOk9 a) (kBN9 a) (kBX9 a) bit k):=⟨gsE (kOk9 a) (kBN9 a) (kBX9 a) bit k,(rfl:gsE (kOk9 a) (kBN9 a) (kBX9 a) bit k=gsE (kOk9 a) (kBN9 a) (kBX9 a) bit k)⟩;rw[←hP1.out,←hP2.out]
 cases hk:kOk9 a with
 | false=>
  have CC:=check_is h false hk
  have E:Hid (P1=0∧P2=2):=by
   show _∧_;rw[hP1.out,hP2.out];unfold gsX gsE;rw[hk];exact⟨rfl,rfl⟩
  obtain⟨⟨ao,cap,qo,dap,rfl,_⟩,_⟩:=h;obtain⟨N,M,k0,V,LM,xs,H,ys⟩:=a;dsimp only at *;clear hP1 hP2
  obtain⟨W,hW⟩:∃W,W=w.alloc (.cells #[.int .i64 N,.int .i64 M,.int .i64 k0,.int .i64 V,.int .i64 LM,.slice ao xs.length cap,.int .i64 H,.slice qo ys.length dap] 61):=⟨_,rfl⟩;have bW:=yb1 hW;have B1:=yc1 hW
  go_enter Tryz.func125,Tryz.ntmps125;go_wp2_with fail;rw[←hW];refine(CC.out _ bW).mono ?_;rintro e w1 ⟨rfl,hb⟩;have bw1:=bW.trans (hb.mono bW.size);replace B1:=B1.kept hb;clear hb CC hW bW;go_wp2;go_ret2
  rw[E.out.1,E.out.2];exact⟨rfl,bw1⟩
 | true=>
  have CC:=check_is h true hk;have hck:=kB_chk9 a hk;obtain⟨n,mm,kn,vn,hh,LM,xs,ys,rfl⟩:=kOk_nat a hk;obtain⟨F,hl,hg,hr⟩:=ok_fits n mm kn vn hh LM xs ys hk
  have e1:kBN9 ⟨n,mm,kn,vn,LM,xs,hh,ys⟩=(n:Int):=by unfold kBN9;rw[if_pos hk]
  have e2:kBX9 ⟨n,mm,kn,vn,LM,xs,hh,ys⟩=rowOf n (isIn (kRow ⟨n,mm,kn,vn,LM,xs,hh,ys⟩)):=by unfold kBX9;rw[if_pos hk];rfl
  rw[e1,e2]at hck;rw[hk,e1,e2]at hP1;rw[hk,e1,e2]at hP2;generalize kRow ⟨n,mm,kn,vn,LM,xs,hh,ys⟩=l at *;obtain⟨⟨ao,cap,qo,dap,rfl,ir,a1,a2,a3,a4,a5,a6⟩,n3,xl,yl⟩:=h;dsimp only at *
  have nl:=F.hn;have ml:=F.hm;clear hk e1 e2 n3 xl yl ir
  obtain⟨W,hW⟩:∃W,W=w.alloc (.cells #[.int .i64 (n:Nat),.int .i64 (mm:Nat),.int .i64 (kn:Nat),.int .i64 (vn:Nat),.int .i64 LM,.slice ao xs.length cap,.int .i64 (hh:Nat),.slice qo ys.length dap] 61):=⟨_,rfl⟩
  have bW:=yb1 hW;have B1:=yc1 hW
  have all:cB (rowOf n (isIn l)) bit n=if bit then mm else n-mm:=by
   unfold cB;rw[cut_all hr,hl]
  have IFF:=psel_iff (n:Int) (rowOf n (isIn l)) bit k;rw[Int.toNat_natCast,all]at IFF
  have C3:Hid (∀w0,Calls Tryz.prog 128 #[.bool bit,.int .i64 (n:Nat),.int .i64 (mm:Nat)] w0 fun e w'=>e=.returned (.int .i64 ((if bit then mm else n-mm:Nat):Int))∧w'=w0):=fun w0=>gofBit_c bit n mm nl ml w0
  obtain⟨R,hR⟩:∃R,Hid (R=if bit then mm else n-mm):=⟨_,rfl⟩;rw[←hR.out]at IFF C3;have RR:R≤1048576:=by rw[hR.out];split<;>omega
  by_cases i0:k<0∨(R:Int)≤k
  ·have E:Hid (P1=0∧P2=3):=by
    show _∧_
    have hn:pselO (n:Int) (rowOf n (isIn l)) bit k=none:=by
     cases e:pselO (n:Int) (rowOf n (isIn l)) bit k with
     | none=>rfl
     | some x=>
      rw[e]at IFF;have:=IFF.1 rfl;omega
    rw[hP1.out,hP2.out];unfold gsX gsE;rw[hn];exact⟨rfl,rfl⟩
   clear hP1 hP2 hck hl hg hr F a1 a4 a2 a5 IFF all;rcases i0 with i0 | i0
   ·skip;go_enter Tryz.func125,Tryz.ntmps125;go_wp2_with fail;rw[←hW];refine(CC.out _ bW).mono ?_;rintro e w1 ⟨rfl,hb⟩;have bw1:=bW.trans (hb.mono bW.size);replace B1:=B1.kept hb;clear hb CC hW bW
    have q0:=B1.cell 0 rfl;have q1:=B1.cell 1 rfl;go_wp2;go_ret2;rw[E.out.1,E.out.2];exact⟨rfl,bw1⟩
   ·by_cases i1:k<0
    ·skip;go_enter Tryz.func125,Tryz.ntmps125;go_wp2_with fail;rw[←hW];refine(CC.out _ bW).mono ?_;rintro e w1 ⟨rfl,hb⟩;have bw1:=bW.trans (hb.mono bW.size);replace B1:=B1.kept hb;clear hb CC hW bW
     have q0:=B1.cell 0 rfl;have q1:=B1.cell 1 rfl;go_wp2;go_ret2;rw[E.out.1,E.out.2];exact⟨rfl,bw1⟩
    ·skip;go_enter Tryz.func125,Tryz.ntmps125;go_wp2_with fail;rw[←hW];refine(CC.out _ bW).mono ?_;rintro e w1 ⟨rfl,hb⟩;have bw1:=bW.trans (hb.mono bW.size);replace B1:=B1.kept hb;clear hb CC hW bW
     have q0:=B1.cell 0 rfl;have q1:=B1.cell 1 rfl;go_wp2_with fail;refine(C3.out _).mono ?_;rintro e w3 ⟨rfl,h3⟩;rw[h3];clear h3 w3;go_wp2;go_ret2;rw[E.out.1,E.out.2];exact⟨rfl,bw1⟩
  ·obtain⟨j,rfl⟩:=Int.eq_ofNat_of_zero_le (show 0≤k by omega);have jR:j<R:=by omega
   have C2:∃p:Nat,Hid (P1=(p:Int)∧P2=0)∧Hid (∀w0,Below w.heap.size w w0→Calls Tryz.prog 173 #[.agg #[.int .i64 (n:Nat),.int .i64 (mm:Nat),.int .i64 (kn:Nat),.int .i64 (vn:Nat),.int .i64 LM,.slice ao xs.length cap,.int .i64 (hh:Nat),.slice qo ys.length dap],.bool bit,.int .i64 (j:Nat)] w0 fun e w'=>e=.returned (.int .i64 (p:Nat))∧Below w0.heap.size w0 w'):=by
    have key:∀p,pselO (n:Int) (rowOf n (isIn l)) bit (j:Int)=some p→P1=(p:Int)∧P2=0:=fun p hp=>by
     rw[hP1.out,hP2.out];unfold gsX gsE;rw[hp];exact⟨rfl,rfl⟩
    cases bit with
    | true=>
     have hR':R=mm:=hR.out;obtain⟨b1,b2⟩:=cut_one hr j (by omega);have b3:=hr.1 j (by omega)
     refine⟨gt l j,key _ (psel_some _ _ _ _ _ (by rw[Int.toNat_natCast];exact b3) ?_),fun w0 hb=>gsought1_c n mm kn vn hh LM ao xs cap qo ys dap l w0 F (a1.keep hb) a2 (a4.keep hb) a5 hl hg hr j (by omega)⟩
     unfold here cB;rw[b1,if_pos rfl,b2];simp
    | false=>
     have hR':R=n-mm:=hR.out;obtain⟨c,hc,b1,b2,b3⟩:=cut_zero hr j (by rw[hl];omega)
     refine⟨j+c,key _ (psel_some _ _ _ _ _ (by rw[Int.toNat_natCast];exact b1) ?_),fun w0 hb=>gsought0_c n mm kn vn hh LM ao xs cap qo ys dap l w0 F (a1.keep hb) a2 (a4.keep hb) a5 hl hg hr j (by omega) c hc⟩
     unfold here cB;rw[b2,if_neg (by simp),b3];simp
   obtain⟨p,E,C2⟩:=C2;have i1:¬(j:Int)<0:=by omega
   have i2:¬(R:Int)≤(j:Int):=by omega
   clear hP1 hP2 hck hl hg hr F a1 a4 a2 a5 i0 IFF all hR jR;go_enter Tryz.func125,Tryz.ntmps125;go_wp2_with fail;rw[←hW];refine(CC.out _ bW).mono ?_;rintro e w1 ⟨rfl,hb⟩;have bw1:=bW.trans (hb.mono bW.size)
   replace B1:=B1.kept hb;clear hb CC hW bW;have q0:=B1.cell 0 rfl;have q1:=B1.cell 1 rfl;have q2:=B1.cell 2 rfl;have q3:=B1.cell 3 rfl;have q4:=B1.cell 4 rfl;have q5:=B1.cell 5 rfl;have q6:=B1.cell 6 rfl
   have q7:=B1.cell 7 rfl;go_wp2_with fail;refine(C3.out _).mono ?_;rintro e w3 ⟨rfl,h3⟩;rw[h3];clear h3 w3;go_wp2_with fail;refine(C2.out _ bw1).mono ?_;rintro e w2 ⟨rfl,hb⟩;have bw2:=bw1.trans (hb.mono bw1.size)
   clear hb;go_wp2;go_ret2;rw[E.out.1,E.out.2];exact⟨rfl,bw2⟩
theorem ginfo_f:(Tryz.prog.info? 61).map (·.size)=some 8:=by kernel_rfl
theorem gbuild_bad(N:Int)(ao:Option Addr)(xs:List Nat)(cap:Nat)(w:World)(hx:Wd w ao xs)(hk:chk N xs=false):
  Calls Tryz.prog 53 #[.agg #[.int .i64 N,.slice ao xs.length cap]] w fun e w'=>e=.returned (.tuple #[.agg #[.int .i64 0,.int .i64 0,.int .i64 0,.int .i64 0,.int .i64 0,.slice none 0 0,.int .i64 0,.slice none 0 0],.int .i64 2])∧Below w.heap.size w w':=by
 have CC:Hid (∀w0,Below w.heap.size w w0→Calls Tryz.prog 83 #[.agg #[.int .i64 N,.slice ao xs.length cap]] w0 fun e w'=>e=.returned (.bool false)∧Below w0.heap.size w0 w'):=fun w0 hb=>by
  have:=check_c N ao xs cap w0 (hx.keep hb);rw[hk]at this;exact this
 obtain⟨W1,hW1⟩:∃W1,W1=(w.alloc (.cells #[.int .i64 N,.slice ao xs.length cap] 53)).alloc (.cells #[.int .i64 0,.int .i64 0,.int .i64 0,.int .i64 0,.int .i64 0,.slice none 0 0,.int .i64 0,.slice none 0 0] 61):=⟨_,rfl⟩
 have b1:Below w.heap.size w W1:=by rw[hW1];exact((below_alloc w _).alloc (by simp only[World.size_alloc];omega) _)
 have c1:Cel W1 (w.heap.size+1) [.int .i64 0,.int .i64 0,.int .i64 0,.int .i64 0,.int .i64 0,.slice none 0 0,.int .i64 0,.slice none 0 0] 61:=by rw[hW1];exact Cel.new2 w _ _ _
 go_enter Tryz.func53,Tryz.ntmps53;go_wp2_with fail;rw[←hW1];clear hW1 hx;refine(CC.out _ b1).mono ?_;rintro e wf ⟨rfl,hb⟩;replace b1:=b1.trans (hb.mono b1.size);replace c1:=c1.kept hb;clear hb CC
 go_wp2_with (refine store_cel (w.heap.size+1) [.int .i64 0,.int .i64 0,.int .i64 0,.int .i64 0,.int .i64 0,.slice none 0 0,.int .i64 0,.slice none 0 0] [.int .i64 0,.int .i64 0,.int .i64 0,.int .i64 0,.int .i64 0,.slice none 0 0,.int .i64 0,.slice none 0 0] rfl rfl c1 rfl ginfo_f (by simp[Value.oneCell']) ?_)
 intro w3 B3 O3;have HZ:=hide9' (And.intro B3 (b1.trans (O3.below (Nat.le_succ _))));clear B3 O3 b1 c1;go_wp2
 (try simp only[Exit.inBlock,Exit.then]);exact bodyPost_ret (result_cel rfl (w.heap.size+1) _ rfl HZ.out.1 Tryz.underlying61 ginfo_f) rfl ⟨rfl,HZ.out.2⟩
theorem gbuild_ok(n:Nat)(ao:Option Addr)(xs:List Nat)(cap:Nat)(w:World)(m:Nat)(k V LM H:Int)(LX LY:List Nat)(xn yn:Nat)(hxn:xn=LX.length)(hyn:yn=LY.length)
  (CC:Hid (∀w0,Below w.heap.size w w0→Calls Tryz.prog 83 #[.agg #[.int .i64 (n:Nat),.slice ao xs.length cap]] w0 fun e w'=>e=.returned (.bool true)∧Below w0.heap.size w0 w'))
  (CO:Hid (∀w0,Below w.heap.size w w0→Calls Tryz.prog 92 #[.agg #[.int .i64 (n:Nat),.slice ao xs.length cap],.int .i64 (n:Nat)] w0 fun e w'=>e=.returned (.int .i64 (m:Nat))∧Below w0.heap.size w0 w'))
  (CL:Hid (∀w0,Below w.heap.size w w0→Calls Tryz.prog 93 #[.agg #[.int .i64 (n:Nat),.slice ao xs.length cap],.int .i64 (m:Nat)] w0 fun e w'=>∃bo bc,e=.returned (.tuple #[.agg #[.int .i64 k,.int .i64 V,.int .i64 LM,.slice bo xn bc],.int .i64 0])∧Wd w' bo LX∧xn≤bc∧Below w0.heap.size w0 w'))
  (CH:Hid (∀w0,Below w.heap.size w w0→Calls Tryz.prog 94 #[.agg #[.int .i64 (n:Nat),.slice ao xs.length cap],.int .i64 (m:Nat)] w0 fun e w'=>∃qo qc,e=.returned (.tuple #[.agg #[.int .i64 H,.slice qo yn qc],.int .i64 0])∧Wd w' qo LY∧yn≤qc∧Below w0.heap.size w0 w')):
  Calls Tryz.prog 53 #[.agg #[.int .i64 (n:Nat),.slice ao xs.length cap]] w fun e w'=>∃bo bc qo qc,e=.returned (.tuple #[.agg #[.int .i64 (n:Nat),.int .i64 (m:Nat),.int .i64 k,.int .i64 V,.int .i64 LM,.slice bo xn bc,.int .i64 H,.slice qo yn qc],.int .i64 0])∧Wd w' bo LX∧xn≤bc∧Wd w' qo LY∧yn≤qc∧Below w.heap.size w w':=by
 have HX:=hide9' hxn;have HY:=hide9' hyn;clear hxn hyn
 obtain⟨W1,hW1⟩:∃W1,W1=(w.alloc (.cells #[.int .i64 (n:Nat),.slice ao xs.length cap] 53)).alloc (.cells #[.int .i64 0,.int .i64 0,.int .i64 0,.int .i64 0,.int .i64 0,.slice none 0 0,.int .i64 0,.slice none 0 0] 61):=⟨_,rfl⟩
 have b1:Below w.heap.size w W1:=by rw[hW1];exact((below_alloc w _).alloc (by simp only[World.size_alloc];omega) _)
 have c0:Cel W1 w.heap.size [.int .i64 (n:Nat),.slice ao xs.length cap] 53:=by rw[hW1];exact(Cel.new w _ _).alloc _
 have c1:Cel W1 (w.heap.size+1) [.int .i64 0,.int .i64 0,.int .i64 0,.int .i64 0,.int .i64 0,.slice none 0 0,.int .i64 0,.slice none 0 0] 61:=by rw[hW1];exact Cel.new2 w _ _ _
 go_enter Tryz.func53,Tryz.ntmps53;go_wp2_with fail;rw[←hW1];clear hW1;refine(CC.out _ b1).mono ?_;rintro e wf ⟨rfl,hb⟩;replace b1:=b1.trans (hb.mono b1.size);replace c0:=c0.kept hb;replace c1:=c1.kept hb;clear hb CC
 have q0:=c0.cell 0 rfl;have q1:=c0.cell 1 rfl;go_wp2_with fail;refine(CO.out _ b1).mono ?_;rintro e w2 ⟨rfl,hb⟩;replace b1:=b1.trans (hb.mono b1.size);replace c0:=c0.kept hb;replace c1:=c1.kept hb;clear hb CO q0 q1
 have q0:=c0.cell 0 rfl;have q1:=c0.cell 1 rfl;go_wp2_with fail;refine(CL.out _ b1).mono ?_;rintro e w3 ⟨bo,bc,rfl,hX,hxc,hb⟩;replace b1:=b1.trans (hb.mono b1.size);replace c0:=c0.kept hb;replace c1:=c1.kept hb
 clear hb CL q0 q1;have bA:=below_alloc w3 (.cells #[.int .i64 k,.int .i64 V,.int .i64 LM,.slice bo xn bc] 57);have d5:=Cel.new w3 [.int .i64 k,.int .i64 V,.int .i64 LM,.slice bo xn bc] 57;have d0:=c0.kept bA
 have d1:=c1.kept bA;have hX2:=hX.keep bA;have b2:=b1.trans (bA.mono b1.size);have q0:=d0.cell 0 rfl;have q1:=d0.cell 1 rfl;go_wp2_with fail;refine(CH.out _ b2).mono ?_;rintro e w4 ⟨qo,qc,rfl,hY,hyc,hb⟩
 replace b2:=b2.trans (hb.mono b2.size);replace d0:=d0.kept hb;replace d1:=d1.kept hb;replace d5:=d5.kept hb;replace hX2:=hX2.keep hb;clear hb CH q0 q1 bA b1 c0 c1 hX
 have bA:=below_alloc w4 (.cells #[.int .i64 H,.slice qo yn qc] 53);have e7:=Cel.new w4 [.int .i64 H,.slice qo yn qc] 53;have e0:=d0.kept bA;have e1:=d1.kept bA;have e5:=d5.kept bA;have hX3:=hX2.keep bA
 have hY3:=hY.keep bA;have b3:=b2.trans (bA.mono b2.size);have q0:=e0.cell 0 rfl;clear bA d0 d1 d5 hX2 hY b2;have ne1:=hX3.apart e1 (by intro v hv n;simp at hv;rcases hv with rfl | rfl | rfl | rfl<;>simp)
 have ne2:=hY3.apart e1 (by intro v hv n;simp at hv;rcases hv with rfl | rfl | rfl | rfl<;>simp);generalize w3.heap.size=g5 at *
 go_wp2_with (first | refine load_cel g5 _ rfl e5 Tryz.underlying57 ginfo_i ?_ | refine load_cel w4.heap.size _ rfl e7 Tryz.underlying53 ginfo_b ?_ | refine store_cel (w.heap.size+1) [.int .i64 0,.int .i64 0,.int .i64 0,.int .i64 0,.int .i64 0,.slice none 0 0,.int .i64 0,.slice none 0 0] [.int .i64 (n:Nat),.int .i64 (m:Nat),.int .i64 k,.int .i64 V,.int .i64 LM,.slice bo xn bc,.int .i64 H,.slice qo yn qc] rfl rfl e1 rfl ginfo_f (by simp[Value.oneCell']) ?_)
 intro w5 B3 O3;have HZ:=hide9' (And.intro B3 (And.intro (O3.wd hX3 ne1) (And.intro (O3.wd hY3 ne2) (b3.trans (O3.below (Nat.le_succ _))))));clear B3 O3 hX3 hY3 b3 e0 e1 e5 e7 ne1 ne2;go_wp2
 (try simp only[Exit.inBlock,Exit.then]);exact bodyPost_ret (result_cel rfl (w.heap.size+1) _ rfl HZ.out.1 Tryz.underlying61 ginfo_f) rfl ⟨bo,bc,qo,qc,rfl,HZ.out.2.1,hxc,HZ.out.2.2.1,hyc,HZ.out.2.2.2⟩
theorem build_k9(N:Int)(ao:Option Addr)(xs:List Nat)(cap:Nat)(w:World)(hN:I64 N)(hx:Wd w ao xs)(hf:Fit xs)(hcap:xs.length≤cap)(hl:N≤3000∧xs.length≤1048576):
  Calls Tryz.prog 53 #[.agg #[.int .i64 N,.slice ao xs.length cap]] w fun e w'=>∃cs:List Value,e=.returned (.tuple #[.agg cs.toArray,.int .i64 (kE9 N xs)])∧KI9 w' cs (kB9 N xs)∧Below w.heap.size w w':=by
 have z:I64 0:=⟨by decide,by decide⟩;cases hk:chk N xs with
 | false=>
  refine(gbuild_bad N ao xs cap w hx hk).mono ?_;rintro e w' ⟨rfl,hb⟩;have e1:kE9 N xs=2:=by unfold kE9;rw[hk];rfl
  have e2:kB9 N xs=⟨0,0,0,0,0,[],0,[]⟩:=by unfold kB9;rw[hk];rfl
  rw[e1,e2];have f0:Fit []:=fun i=>by unfold gt;simp
  exact⟨_,rfl,⟨⟨none,0,none,0,rfl,⟨z,z,z,z,z,z⟩,wd0' _ _,f0,Nat.le_refl _,wd0' _ _,f0,Nat.le_refl _⟩,by decide,by simp,by simp⟩,hb⟩
 | true=>
  obtain⟨u1,u2,u3,u4⟩:=chk_out _ _ hk;obtain⟨n,rfl⟩:=Int.eq_ofNat_of_zero_le u1;have hn:n≤3000:=by omega
  obtain⟨L,hL⟩:∃L,L=plc (bitAt xs) n:=⟨_,rfl⟩;obtain⟨v,hv⟩:∃v,v=wdF n L.length:=⟨_,rfl⟩;have RS:Rise L n:=by rw[hL];exact plc_rise _ _
  have mn:=RS.len;have v20:v≤20:=by rw[hv];exact wdF_le n _ (by omega)
  have e1:kE9 (n:Int) xs=0:=by unfold kE9;rw[hk];rfl
  have e2:kB9 (n:Int) xs=⟨n,L.length,(loP L v).length,(max v 1:Nat),((loP L v).length:Int)*(max v 1:Nat),mkS (loP L v) (max v 1) (loP L v).length,hiN L n v,rowOf (hiN L n v) (isIn (hiP L v))⟩:=by
   unfold kB9;rw[if_pos hk,Int.toNat_natCast,←hL];unfold fOf;rw[←hv]
  have CC:Hid (∀w0,Below w.heap.size w w0→Calls Tryz.prog 83 #[.agg #[.int .i64 (n:Nat),.slice ao xs.length cap]] w0 fun e w'=>e=.returned (.bool true)∧Below w0.heap.size w0 w'):=fun w0 hb=>by
   have:=check_c n ao xs cap w0 (hx.keep hb);rw[hk]at this;exact this
  have CO:Hid (∀w0,Below w.heap.size w w0→Calls Tryz.prog 92 #[.agg #[.int .i64 (n:Nat),.slice ao xs.length cap],.int .i64 (n:Nat)] w0 fun e w'=>e=.returned (.int .i64 (L.length:Nat))∧Below w0.heap.size w0 w'):=fun w0 hb=>by
   have:=bones_c n ao xs cap n w0 (hx.keep hb) hf hcap
   have on:onesI (n:Int) xs (n:Int)=(L.length:Int):=by
    rw[hL,plc_cnt];unfold onesI;rw[hk,show min (n:Int) (n:Int)=(n:Int)by omega,Int.toNat_natCast];rfl
   rw[on]at this;exact this
  have CL:Hid (∀w0,Below w.heap.size w w0→Calls Tryz.prog 93 #[.agg #[.int .i64 (n:Nat),.slice ao xs.length cap],.int .i64 (L.length:Nat)] w0 fun e w'=>∃bo bc,e=.returned (.tuple #[.agg #[.int .i64 ((loP L v).length:Nat),.int .i64 (max v 1:Nat),.int .i64 (((loP L v).length:Int)*(max v 1:Nat)),.slice bo (mkS (loP L v) (max v 1) (loP L v).length).length bc],.int .i64 0])∧Wd w' bo (mkS (loP L v) (max v 1) (loP L v).length)∧(mkS (loP L v) (max v 1) (loP L v).length).length≤bc∧Below w0.heap.size w0 w'):=fun w0 hb=>by
   by_cases c:v=0
   ·refine(glowOf_0 n ao xs cap w0 L.length hn mn (by rw[←hv];exact c)).mono ?_;rintro e w' ⟨bo,bc,rfl,hb2⟩;subst c;have e3:loP L 0=[]:=rfl;have e4:mkS [] 1 0=[]:=by unfold mkS;rfl
    rw[e3];exact⟨bo,bc,rfl,wd0' _ _,Nat.zero_le _,hb2⟩
   ·refine(glowOf_v n ao xs cap w0 (hx.keep hb) hf hk hn L hL L.length v rfl hv (by omega)).mono ?_;rintro e w' ⟨g,k,rfl,hk2,hO,hb2⟩;have e3:(loP L v).length=L.length:=length_loP L v (by omega)
    have e4:max v 1=v:=by omega
    rw[e3,e4];exact⟨some ⟨g,0,none⟩,k,by rw[hk2],hO.wd,by rw[hk2];exact Nat.le_refl _,hb2⟩
  have CH:Hid (∀w0,Below w.heap.size w w0→Calls Tryz.prog 94 #[.agg #[.int .i64 (n:Nat),.slice ao xs.length cap],.int .i64 (L.length:Nat)] w0 fun e w'=>∃qo qc,e=.returned (.tuple #[.agg #[.int .i64 (hiN L n v:Nat),.slice qo (rowOf (hiN L n v) (isIn (hiP L v))).length qc],.int .i64 0])∧Wd w' qo (rowOf (hiN L n v) (isIn (hiP L v)))∧(rowOf (hiN L n v) (isIn (hiP L v))).length≤qc∧Below w0.heap.size w0 w'):=fun w0 hb=>by
   refine(ghighOf_c n ao xs cap w0 (hx.keep hb) hf hk hn L hL L.length v (hiN L n v) ((hiN L n v+63)/64) rfl hv rfl rfl).mono ?_;rintro e w' ⟨g,rfl,hO,_,hb2⟩
   exact⟨some ⟨g,0,none⟩,_,by rw[length_rowOf],hO.wd,by rw[length_rowOf];exact Nat.le_refl _,hb2⟩
  refine(gbuild_ok n ao xs cap w L.length _ _ _ _ _ _ _ _ rfl rfl CC CO CL CH).mono ?_;rintro e w' ⟨bo,bc,qo,qc,rfl,p1,p2,p3,p4,hb⟩;rw[e1,e2];have l1:=length_lo_le L v;have hE:n/2^v≤n:=Nat.div_le_self _ _
  have l2:hiN L n v≤6001:=by unfold hiN;omega
  have l3:(loP L v).length*max v 1≤3000*20:=Nat.mul_le_mul (by omega) (by omega);have l4:(mkS (loP L v) (max v 1) (loP L v).length).length≤1048576:=by rw[length_mkS];omega
  have l5:(rowOf (hiN L n v) (isIn (hiP L v))).length≤1048576:=by rw[length_rowOf];omega
  have i1:I64 (n:Int):=⟨by omega,by omega⟩;have i2:I64 (L.length:Int):=⟨by omega,by omega⟩;have i3:I64 ((loP L v).length:Int):=⟨by omega,by omega⟩;have i5:I64 ((max v 1:Nat):Int):=⟨by omega,by omega⟩
  have i6:I64 (hiN L n v:Int):=⟨by omega,by omega⟩
  have i4:I64 (((loP L v).length:Int)*(max v 1:Nat)):=by
   rw[←Int.natCast_mul];exact⟨by omega,by omega⟩
  exact⟨_,rfl,⟨⟨bo,bc,qo,qc,rfl,⟨i1,i2,i3,i5,i4,i6⟩,p1,fit_mkS _ _ _,p2,p3,fit_rowOf _ _,p4⟩,hl.1,l4,l5⟩,hb⟩
end Go.Proofs.YtleegaihbgbcjabGreatDoor
namespace Go.Proofs.YtleegaihbgbcjabGreatDoor
open Go.ChangeShapes Go.WideShapes Go.ChangeAt Go.RowKit Go.Joins Go.Deep Num Bit
theorem kB_ok9(N:Int)(xs:List Nat)(hf:Fit xs)(hk:chk N xs=true)(hN:N≤3000):kOk9 (kB9 N xs)=true∧kBN9 (kB9 N xs)=N∧kBX9 (kB9 N xs)=xs:=by
 obtain⟨h0,h1,_,_⟩:=chk_out N xs hk;obtain⟨n,rfl⟩:=Int.eq_ofNat_of_zero_le h0;have hn:n≤3000:=by omega
 obtain⟨L,hL⟩:∃L,L=plc (bitAt xs) n:=⟨_,rfl⟩;have RS:Rise L n:=by rw[hL];exact plc_rise _ _
 have mn:=RS.len;have v20:=wdF_le n L.length (by omega)
 have e:kB9 (n:Int) xs=fOf n L:=by
  unfold kB9;rw[if_pos hk,Int.toNat_natCast,←hL]
 have hE:n/2^wdF n L.length≤n:=Nat.div_le_self _ _
 have hrow:fRow (fOf n L)=some L:=by
  refine fRow_of RS (by omega) (by unfold hiN;omega) ?_;have l1:=length_lo_le L (wdF n L.length);have l3:(loP L (wdF n L.length)).length*max (wdF n L.length) 1≤3000*20:=Nat.mul_le_mul (by omega) (by omega);omega
 have ok:kOk9 (fOf n L)=true:=by
  unfold kOk9;rw[hrow];exact(fSame_iff _ _).2 rfl
 rw[e];refine⟨ok,?_,?_⟩
 ·unfold kBN9;rw[if_pos ok];rfl
 ·unfold kBX9 kRow;rw[if_pos ok,hrow];show rowOf n (isIn L)=xs;have hy:=chk_row (n:Int) xs hf hk;rw[Int.toNat_natCast]at hy
  rw[rowOf_congr n _ (bitAt xs) fun j hj=>by rw[hL,isIn_plc,decide_eq_true hj,Bool.true_and]];exact hy.symm
theorem kE_ok9(N:Int)(xs:List Nat)(hk:chk N xs=true):kE9 N xs=0:=by unfold kE9;rw[hk];rfl
theorem kZ_val9(n:Nat)(xs:List Nat)(hf:Fit xs)(hk:chk (n:Int) xs=true)(hn:n≤3000):64<kZ9 (kB9 n xs)∧kZ9 (kB9 n xs)≤2*(n:Int)+65:=by
 have ok:=(kB_ok9 n xs hf hk (by omega)).1;obtain⟨L,hL⟩:∃L,L=plc (bitAt xs) n:=⟨_,rfl⟩;have RS:Rise L n:=by rw[hL];exact plc_rise _ _
 have mn:=RS.len
 have e:kB9 (n:Int) xs=fOf n L:=by
  unfold kB9;rw[if_pos hk,Int.toNat_natCast,←hL]
 rw[e]at ok⊢;unfold kZ9;rw[if_pos ok]
 show 64<((loP L (wdF n L.length)).length:Int)*(max (wdF n L.length) 1:Nat)+(hiN L n (wdF n L.length):Int)+64∧((loP L (wdF n L.length)).length:Int)*(max (wdF n L.length) 1:Nat)+(hiN L n (wdF n L.length):Int)+64≤2*(n:Int)+65
 rw[←Int.natCast_mul];have hE:n/2^wdF n L.length≤n:=Nat.div_le_self _ _
 have key:(loP L (wdF n L.length)).length*max (wdF n L.length) 1+L.length≤n:=by
  by_cases c:wdF n L.length=0
  ·rw[c,show loP L 0=[]from rfl];simpa using mn
  ·rw[length_loP L _ (by omega),show max (wdF n L.length) 1=wdF n L.length by omega];have m0:L.length≠0:=fun e=>c (by unfold wdF;rw[if_pos e]);have d1:1≤n/L.length:=Nat.div_pos mn (by omega)
   obtain⟨p,hp,p1,p2,p3,_⟩:=long ((n/L.length:Nat):Int) (by omega) (by have:=Nat.div_le_self n L.length;omega) (by omega)
   have hw:wdF n L.length=p-1:=by
    unfold wdF;rw[if_neg m0];unfold lenI at hp;rw[Int.toNat_natCast]at hp;omega
   have h2:2^(p-1)≤n/L.length:=by
    clear hp hw;generalize n/L.length=dd at *;have e1:(dd:Int)/2^(p-1)=((dd/2^(p-1):Nat):Int):=by rw[Int.natCast_ediv,Int.natCast_pow];rfl
    rw[e1]at p3;refine Nat.le_of_not_lt fun h=>?_;rw[Nat.div_eq_of_lt h]at p3;cases p3
   have h3:p-1+1≤2^(p-1):=Nat.lt_two_pow_self;have h4:L.length*(p-1+1)≤L.length*(n/L.length):=Nat.mul_le_mul_left _ (by omega);have h5:L.length*(n/L.length)≤n:=Nat.mul_div_le n L.length
   rw[hw];rw[Nat.mul_add,Nat.mul_one]at h4;omega
 unfold hiN;generalize (loP L (wdF n L.length)).length*max (wdF n L.length) 1=q at *;generalize n/2^wdF n L.length=r at *;omega
end Go.Proofs.YtleegaihbgbcjabGreatDoor
namespace Go.Proofs.YtleegaihbgbcjabGreatDoor
open Go.ChangeShapes Go.WideShapes Go.ChangeAt Go.RowKit Go.Joins Go.Deep Num Bit Bn
theorem kB_p(N:Int)(xs:List Nat)(h:kE7 N xs=0):kB 1 N xs=⟨1,kB7 N xs,n8,n9⟩:=by
 have e:kE 1 N xs=0:=h;unfold kB;rw[if_pos e];rfl
theorem kB_r(N:Int)(xs:List Nat)(h:kE8 N xs=0):kB 2 N xs=⟨2,n7,kB8 N xs,n9⟩:=by
 have e:kE 2 N xs=0:=h;unfold kB;rw[if_pos e];rfl
theorem kB_f(N:Int)(xs:List Nat)(h:kE9 N xs=0):kB 3 N xs=⟨3,n7,n8,kB9 N xs⟩:=by
 have e:kE 3 N xs=0:=h;unfold kB;rw[if_pos e];rfl
theorem kB_none(k N:Int)(xs:List Nat)(h:kE k N xs≠0):kB k N xs=⟨0,n7,n8,n9⟩:=by
 unfold kB;rw[if_neg h]
theorem on_mp(p:RA7):kOn ⟨1,p,n8,n9⟩=1:=by
 have:kZs ⟨1,p,n8,n9⟩=true:=rfl;unfold kOn;rw[if_pos this]
theorem on_mr(r:RA8):kOn ⟨2,n7,r,n9⟩=2:=by
 have:kZs ⟨2,n7,r,n9⟩=true:=rfl;unfold kOn;rw[if_pos this]
theorem on_mf(f:RA9):kOn ⟨3,n7,n8,f⟩=3:=by
 have:kZs ⟨3,n7,n8,f⟩=true:=rfl;unfold kOn;rw[if_pos this]
theorem kB_ok(k N:Int)(xs:List Nat)(h1:1≤k)(h3:k≤3)(hf:Fit xs)(hk:chk N xs=true)(hN:N≤3000):kOk (kB k N xs)=true∧kBN (kB k N xs)=N∧kBX (kB k N xs)=xs:=by
 have e0:=kE_ok k N xs h1 h3 hk;have h:k=1∨k=2∨k=3:=by omega
 rcases h with rfl | rfl | rfl
 ·rw[kB_p N xs e0];obtain⟨e1,e2,e3,_⟩:=on_p (on_mp (kB7 N xs));obtain⟨g1,g2,g3⟩:=kB_ok7 N xs hk;exact⟨e1.trans g1,e2.trans g2,e3.trans g3⟩
 ·rw[kB_r N xs e0];obtain⟨e1,e2,e3,_⟩:=on_r (on_mr (kB8 N xs));obtain⟨g1,g2,g3⟩:=kB_ok8 N xs hf hk;exact⟨e1.trans g1,e2.trans g2,e3.trans g3⟩
 ·rw[kB_f N xs e0];obtain⟨e1,e2,e3,_⟩:=on_f (on_mf (kB9 N xs));obtain⟨g1,g2,g3⟩:=kB_ok9 N xs hf hk hN;exact⟨e1.trans g1,e2.trans g2,e3.trans g3⟩
end Go.Proofs.YtleegaihbgbcjabGreatDoor
namespace Go.Proofs.YtleegaihbgbcjabGreatDoor
open Go.RowKit Num Bit
theorem ct_succ(l:List Bool)(b:Bool)(i:Nat)(h:i<l.length):Sh.ct b l (i+1)=Sh.ct b l i+(bt l i==b).toNat:=by
 unfold Sh.ct;rw[List.take_add_one,List.filter_append,List.length_append,List.getElem?_eq_getElem h];unfold bt;rw[List.getD_eq_getElem?_getD,List.getElem?_eq_getElem h];cases e:(l[i]==b)<;>simp[e]
theorem cnt_frL(l:List Bool):∀i,i≤l.length→cntB (frL l) i=Sh.ct true l i
 | 0,_=>by simp[cntB,Sh.ct]
 | i+1,h=>by
  rw[cntB,cnt_frL l i (by omega),ct_succ l true i (by omega)];unfold frL;rw[bitAt_rowOf,decide_eq_true (show i<l.length by omega),Bool.true_and];cases bt l i<;>rfl
theorem ct_both(l:List Bool):∀i,i≤l.length→Sh.ct true l i+Sh.ct false l i=i
 | 0,_=>by simp[Sh.ct]
 | i+1,h=>by
  have:=ct_both l i (by omega);rw[ct_succ l true i (by omega),ct_succ l false i (by omega)];cases bt l i<;>simp<;>omega
theorem cB_frL(l:List Bool)(b:Bool)(i:Nat)(h:i≤l.length):cB (frL l) b i=Sh.ct b l i:=by
 unfold cB;rw[cnt_frL l i h];have:=ct_both l i h;cases b
 ·simp;omega
 ·simp
theorem kB_T{k:Int}(hk:1≤k∧k≤3)(l:List Bool)(h:l.length≤3000):kOk (kB k (l.length:Int) (frL l))=true∧kBN (kB k (l.length:Int) (frL l))=(l.length:Int)∧kBX (kB k (l.length:Int) (frL l))=frL l:=kB_ok k _ _ hk.1 hk.2 (fit_rowOf _ _) (chk_rowOf _ _ (by omega)) (by omega)
theorem bitAt_frL(l:List Bool)(i:Nat)(b:Bool)(h:l[i]?=some b):bitAt (frL l) i=b:=by
 unfold frL
 have hi:i<l.length:=by
  by_cases g:i<l.length
  ·exact g
  ·rw[List.getElem?_eq_none (by omega)]at h;cases h
 rw[bitAt_rowOf,decide_eq_true hi,Bool.true_and];unfold bt;rw[List.getD_eq_getElem?_getD,h];rfl
theorem load_part{ops:Array Oper}{rest:List Oper}{d:Option Tmp}{ty T:TypeId}{ps:String}{af:Array Edge}{gd:Option (Nat×Bool)}{a:Act}{w:World}{Q:Exit→Act→World→Prop}{x:Operand}
  (g o:Nat) (cs:List Value) {fs:Array Field} (hwn:Region.wanted (⟨d,.load T x,ty,ps,af,gd⟩:Oper) (yielded ops a.tmps)=true) (hx:a.eval x=.pointer (some ⟨g,o,none⟩)) (hc:w.rangeAt g o cs) (hu:Tryz.prog.underlying T=some (.struct fs)) (hi:(Tryz.prog.info? T).map (·.size)=some cs.length)
  (h:wpList Tryz.prog ops Q rest (a.put d (.agg cs.toArray)) w):
  wpList Tryz.prog ops Q (⟨d,.load T x,ty,ps,af,gd⟩::rest) a w:=
 wpList_step fun K hK=>by
  rw[if_pos hwn];exact wp_load_mid T x rfl g o hx cs _ hc hu rfl hi (hK _ _ h)
theorem Cel.part{w:World}{b:Nat}{T:TypeId}(pre cs post:List Value)(h:Cel w b (pre++(cs++post)) T):w.rangeAt b pre.length cs:=fun j v hv=>by
 refine h.cell (pre.length+j) ?_;have hj:j<cs.length:=(List.getElem?_eq_some_iff.1 hv).1;rw[List.getElem?_append_right (by omega),List.getElem?_append_left (by omega),show pre.length+j-pre.length=j by omega]
 exact hv
theorem rws1(w:World)(N:Int)(ao:Option Addr)(n cap:Nat)(T:TypeId):Rws (w.alloc (.cells #[.int .i64 N,.slice ao n cap] T)) w.heap.size [(N,n)]:=by
 have hc:=Cel.new w [.int .i64 N,.slice ao n cap] T;refine⟨hc.lt,fun i hi=>?_⟩;have hi:i<1:=hi;obtain rfl:i=0:=by omega
 exact⟨hc.cell 0 rfl,ao,cap,hc.cell 1 rfl⟩
theorem rws2(w:World)(N:Int)(ao:Option Addr)(n cap:Nat)(M:Int)(bo:Option Addr)(m dap:Nat)(T:TypeId):Rws (w.alloc (.cells #[.int .i64 N,.slice ao n cap,.int .i64 M,.slice bo m dap] T)) w.heap.size [(N,n),(M,m)]:=by
 have hc:=Cel.new w [.int .i64 N,.slice ao n cap,.int .i64 M,.slice bo m dap] T;refine⟨hc.lt,fun i hi=>?_⟩;have hi:i<2:=hi;have:i=0∨i=1:=by omega
 rcases this with rfl | rfl
 ·exact⟨hc.cell 0 rfl,ao,cap,hc.cell 1 rfl⟩
 ·exact⟨hc.cell 2 rfl,bo,dap,hc.cell 3 rfl⟩
theorem noPlain_c(cs:List Value)(a:RA7)(w:World)(h:KArg7 w cs a):
  Calls Tryz.prog 96 #[.agg cs.toArray] w fun e w'=>e=.returned (.bool (z7 a))∧Below w.heap.size w w':=by
 obtain⟨ao,cap,so,sc,tO,tc,rfl, -⟩:=h;obtain⟨N,xs,S,T⟩:=a;dsimp only;obtain⟨Z,hZ⟩:∃Z,Hid (Z=z7 ⟨N,xs,S,T⟩):=⟨_,rfl⟩;rw[←hZ.out]
 obtain⟨W,hW⟩:∃W,W=(w.alloc (.cells #[.int .i64 N,.slice ao xs.length cap,.slice so S.length sc,.slice tO T.length tc] 55)).alloc (.cells #[.int .i64 N,.slice ao xs.length cap] 53):=⟨_,rfl⟩;have bW:=yb2 hW
 have R:Hid (∀w0:World,w0=W→Calls Tryz.prog 151 #[.slice (some ⟨w.heap.size+1,0,none⟩) 1 1] w0 fun e w'=>e=.returned (.bool (norw [(N,xs.length)]))∧Below w0.heap.size w0 w'):=fun w0 g=>by
  subst g;refine noRows_c _ 1 [(N,xs.length)] w0 ?_ (by simp);have hx:=rws1 (w.alloc (.cells #[.int .i64 N,.slice ao xs.length cap,.slice so S.length sc,.slice tO T.length tc] 55)) N ao xs.length cap 53
  rw[show(w.alloc (.cells #[.int .i64 N,.slice ao xs.length cap,.slice so S.length sc,.slice tO T.length tc] 55)).heap.size=w.heap.size+1 by simp]at hx;rw[hW];exact hx
 subst hW;cases hn:norw [(N,xs.length)]with
 | false=>
  have E:Hid (Z=false):=by
   show Z=_;rw[hZ.out];unfold z7;simp[hn]
  clear hZ;rw[hn]at R;go_enter Tryz.func96,Tryz.ntmps96;go_wp2_with fail;refine(R.out _ (by rfl)).mono ?_;rintro e w1 ⟨rfl,hb⟩
  have g0:=((Cel.new w [.int .i64 N,.slice ao xs.length cap,.slice so S.length sc,.slice tO T.length tc] 55).kept (below_alloc _ _)).kept hb;have g1:=g0.cell 2 rfl;have g2:=g0.cell 3 rfl;clear g0
  replace hb:=bW.trans (hb.mono bW.size);go_wp2;go_ret;rw[E.out];exact⟨rfl,hb⟩
 | true=>
  by_cases qS:(S.length:Int)=0;rotate_left
  ·have dS:((S.length:Int)==0)=false:=beq_eq_false_iff_ne.2 qS
   have E:Hid (Z=false):=by
    show Z=_;rw[hZ.out];unfold z7;simp[hn,show ¬S=[]from fun e=>qS (by rw[e];rfl)]
   clear hZ;rw[hn]at R;go_enter Tryz.func96,Tryz.ntmps96;go_wp2_with fail;refine(R.out _ (by rfl)).mono ?_;rintro e w1 ⟨rfl,hb⟩
   have g0:=((Cel.new w [.int .i64 N,.slice ao xs.length cap,.slice so S.length sc,.slice tO T.length tc] 55).kept (below_alloc _ _)).kept hb;have g1:=g0.cell 2 rfl;have g2:=g0.cell 3 rfl;clear g0
   replace hb:=bW.trans (hb.mono bW.size);go_wp2;go_ret;rw[E.out];exact⟨rfl,hb⟩
  have dS:((S.length:Int)==0)=true:=by simp only[qS];rfl
  by_cases qT:(T.length:Int)=0;rotate_left
  ·have dT:((T.length:Int)==0)=false:=beq_eq_false_iff_ne.2 qT
   have E:Hid (Z=false):=by
    show Z=_;rw[hZ.out];unfold z7;simp[hn,show S=[]from List.eq_nil_of_length_eq_zero (by omega),show ¬T=[]from fun e=>qT (by rw[e];rfl)]
   clear hZ;rw[hn]at R;go_enter Tryz.func96,Tryz.ntmps96;go_wp2_with fail;refine(R.out _ (by rfl)).mono ?_;rintro e w1 ⟨rfl,hb⟩
   have g0:=((Cel.new w [.int .i64 N,.slice ao xs.length cap,.slice so S.length sc,.slice tO T.length tc] 55).kept (below_alloc _ _)).kept hb;have g1:=g0.cell 2 rfl;have g2:=g0.cell 3 rfl;clear g0
   replace hb:=bW.trans (hb.mono bW.size);go_wp2;go_ret;rw[E.out];exact⟨rfl,hb⟩
  have dT:((T.length:Int)==0)=true:=by simp only[qT];rfl
  have E:Hid (Z=true):=by
   show Z=_;rw[hZ.out];unfold z7;simp[hn,show S=[]from List.eq_nil_of_length_eq_zero (by omega),show T=[]from List.eq_nil_of_length_eq_zero (by omega)]
  clear hZ;rw[hn]at R;go_enter Tryz.func96,Tryz.ntmps96;go_wp2_with fail;refine(R.out _ (by rfl)).mono ?_;rintro e w1 ⟨rfl,hb⟩
  have g0:=((Cel.new w [.int .i64 N,.slice ao xs.length cap,.slice so S.length sc,.slice tO T.length tc] 55).kept (below_alloc _ _)).kept hb;have g1:=g0.cell 2 rfl;have g2:=g0.cell 3 rfl;clear g0
  replace hb:=bW.trans (hb.mono bW.size);go_wp2;go_ret;rw[E.out];exact⟨rfl,hb⟩
theorem noRrr_c(cs:List Value)(a:RA8)(w:World)(h:KArg8 w cs a):
  Calls Tryz.prog 97 #[.agg cs.toArray] w fun e w'=>e=.returned (.bool (z8 a))∧Below w.heap.size w w':=by
 obtain⟨ao,cap,qo,dap,so,sc,tO,tc,rfl, -⟩:=h;obtain⟨N,k,V,M,xs,L,ys,S,T⟩:=a;dsimp only;obtain⟨Z,hZ⟩:∃Z,Hid (Z=z8 ⟨N,k,V,M,xs,L,ys,S,T⟩):=⟨_,rfl⟩;rw[←hZ.out];by_cases qN:N=0
 rotate_left
 ·have dN:(N==0)=false:=by simp[qN]
  have E:Hid (Z=false):=by
   show Z=_;rw[hZ.out];unfold z8;simp[qN]
  clear hZ;go_enter Tryz.func97,Tryz.ntmps97;go_wp2;go_ret;rw[E.out];exact⟨rfl,below_alloc _ _⟩
 subst qN;by_cases qk:k=0;rotate_left
 ·have dk:(k==0)=false:=by simp[qk]
  have E:Hid (Z=false):=by
   show Z=_;rw[hZ.out];unfold z8;simp[qk]
  clear hZ;go_enter Tryz.func97,Tryz.ntmps97;go_wp2;go_ret;rw[E.out];exact⟨rfl,below_alloc _ _⟩
 subst qk;by_cases qV:V=0;rotate_left
 ·have dV:(V==0)=false:=by simp[qV]
  have E:Hid (Z=false):=by
   show Z=_;rw[hZ.out];unfold z8;simp[qV]
  clear hZ;go_enter Tryz.func97,Tryz.ntmps97;go_wp2;go_ret;rw[E.out];exact⟨rfl,below_alloc _ _⟩
 subst qV
 obtain⟨W,hW⟩:∃W,W=(w.alloc (.cells #[.int .i64 0,.int .i64 0,.int .i64 0,.int .i64 M,.slice ao xs.length cap,.int .i64 L,.slice qo ys.length dap,.slice so S.length sc,.slice tO T.length tc] 59)).alloc (.cells #[.int .i64 M,.slice ao xs.length cap,.int .i64 L,.slice qo ys.length dap] 53):=⟨_,rfl⟩
 have bW:=yb2 hW
 have R:Hid (∀w0:World,w0=W→Calls Tryz.prog 151 #[.slice (some ⟨w.heap.size+1,0,none⟩) 2 2] w0 fun e w'=>e=.returned (.bool (norw [(M,xs.length),(L,ys.length)]))∧Below w0.heap.size w0 w'):=fun w0 g=>by
  subst g;refine noRows_c _ 2 [(M,xs.length),(L,ys.length)] w0 ?_ (by simp)
  have hx:=rws2 (w.alloc (.cells #[.int .i64 0,.int .i64 0,.int .i64 0,.int .i64 M,.slice ao xs.length cap,.int .i64 L,.slice qo ys.length dap,.slice so S.length sc,.slice tO T.length tc] 59)) M ao xs.length cap L qo ys.length dap 53
  rw[show(w.alloc (.cells #[.int .i64 0,.int .i64 0,.int .i64 0,.int .i64 M,.slice ao xs.length cap,.int .i64 L,.slice qo ys.length dap,.slice so S.length sc,.slice tO T.length tc] 59)).heap.size=w.heap.size+1 by simp]at hx
  rw[hW];exact hx
 subst hW;cases hn:norw [(M,xs.length),(L,ys.length)]with
 | false=>
  have E:Hid (Z=false):=by
   show Z=_;rw[hZ.out];unfold z8;simp[hn]
  clear hZ;rw[hn]at R;go_enter Tryz.func97,Tryz.ntmps97;go_wp2_with fail;refine(R.out _ (by rfl)).mono ?_;rintro e w1 ⟨rfl,hb⟩
  have g0:=((Cel.new w [.int .i64 0,.int .i64 0,.int .i64 0,.int .i64 M,.slice ao xs.length cap,.int .i64 L,.slice qo ys.length dap,.slice so S.length sc,.slice tO T.length tc] 59).kept (below_alloc _ _)).kept hb
  have g1:=g0.cell 7 rfl;have g2:=g0.cell 8 rfl;clear g0;replace hb:=bW.trans (hb.mono bW.size);go_wp2;go_ret;rw[E.out];exact⟨rfl,hb⟩
 | true=>
  by_cases qS:(S.length:Int)=0;rotate_left
  ·have dS:((S.length:Int)==0)=false:=beq_eq_false_iff_ne.2 qS
   have E:Hid (Z=false):=by
    show Z=_;rw[hZ.out];unfold z8;simp[hn,show ¬S=[]from fun e=>qS (by rw[e];rfl)]
   clear hZ;rw[hn]at R;go_enter Tryz.func97,Tryz.ntmps97;go_wp2_with fail;refine(R.out _ (by rfl)).mono ?_;rintro e w1 ⟨rfl,hb⟩
   have g0:=((Cel.new w [.int .i64 0,.int .i64 0,.int .i64 0,.int .i64 M,.slice ao xs.length cap,.int .i64 L,.slice qo ys.length dap,.slice so S.length sc,.slice tO T.length tc] 59).kept (below_alloc _ _)).kept hb
   have g1:=g0.cell 7 rfl;have g2:=g0.cell 8 rfl;clear g0;replace hb:=bW.trans (hb.mono bW.size);go_wp2;go_ret;rw[E.out];exact⟨rfl,hb⟩
  have dS:((S.length:Int)==0)=true:=by simp only[qS];rfl
  by_cases qT:(T.length:Int)=0;rotate_left
  ·have dT:((T.length:Int)==0)=false:=beq_eq_false_iff_ne.2 qT
   have E:Hid (Z=false):=by
    show Z=_;rw[hZ.out];unfold z8;simp[hn,show S=[]from List.eq_nil_of_length_eq_zero (by omega),show ¬T=[]from fun e=>qT (by rw[e];rfl)]
   clear hZ;rw[hn]at R;go_enter Tryz.func97,Tryz.ntmps97;go_wp2_with fail;refine(R.out _ (by rfl)).mono ?_;rintro e w1 ⟨rfl,hb⟩
   have g0:=((Cel.new w [.int .i64 0,.int .i64 0,.int .i64 0,.int .i64 M,.slice ao xs.length cap,.int .i64 L,.slice qo ys.length dap,.slice so S.length sc,.slice tO T.length tc] 59).kept (below_alloc _ _)).kept hb
   have g1:=g0.cell 7 rfl;have g2:=g0.cell 8 rfl;clear g0;replace hb:=bW.trans (hb.mono bW.size);go_wp2;go_ret;rw[E.out];exact⟨rfl,hb⟩
  have dT:((T.length:Int)==0)=true:=by simp only[qT];rfl
  have E:Hid (Z=true):=by
   show Z=_;rw[hZ.out];unfold z8;simp[hn,show S=[]from List.eq_nil_of_length_eq_zero (by omega),show T=[]from List.eq_nil_of_length_eq_zero (by omega)]
  clear hZ;rw[hn]at R;go_enter Tryz.func97,Tryz.ntmps97;go_wp2_with fail;refine(R.out _ (by rfl)).mono ?_;rintro e w1 ⟨rfl,hb⟩
  have g0:=((Cel.new w [.int .i64 0,.int .i64 0,.int .i64 0,.int .i64 M,.slice ao xs.length cap,.int .i64 L,.slice qo ys.length dap,.slice so S.length sc,.slice tO T.length tc] 59).kept (below_alloc _ _)).kept hb
  have g1:=g0.cell 7 rfl;have g2:=g0.cell 8 rfl;clear g0;replace hb:=bW.trans (hb.mono bW.size);go_wp2;go_ret;rw[E.out];exact⟨rfl,hb⟩
theorem noFano_c(cs:List Value)(a:RA9)(w:World)(h:KArg9 w cs a):
  Calls Tryz.prog 98 #[.agg cs.toArray] w fun e w'=>e=.returned (.bool (z9 a))∧Below w.heap.size w w':=by
 obtain⟨ao,cap,qo,dap,rfl, -⟩:=h;obtain⟨N,M,k,V,LM,xs,H,ys⟩:=a;dsimp only;obtain⟨Z,hZ⟩:∃Z,Hid (Z=z9 ⟨N,M,k,V,LM,xs,H,ys⟩):=⟨_,rfl⟩;rw[←hZ.out];by_cases qN:N=0;rotate_left
 ·have dN:(N==0)=false:=by simp[qN]
  have E:Hid (Z=false):=by
   show Z=_;rw[hZ.out];unfold z9;simp[qN]
  clear hZ;go_enter Tryz.func98,Tryz.ntmps98;go_wp2;go_ret;rw[E.out];exact⟨rfl,below_alloc _ _⟩
 subst qN;by_cases qM:M=0;rotate_left
 ·have dM:(M==0)=false:=by simp[qM]
  have E:Hid (Z=false):=by
   show Z=_;rw[hZ.out];unfold z9;simp[qM]
  clear hZ;go_enter Tryz.func98,Tryz.ntmps98;go_wp2;go_ret;rw[E.out];exact⟨rfl,below_alloc _ _⟩
 subst qM;by_cases qk:k=0;rotate_left
 ·have dk:(k==0)=false:=by simp[qk]
  have E:Hid (Z=false):=by
   show Z=_;rw[hZ.out];unfold z9;simp[qk]
  clear hZ;go_enter Tryz.func98,Tryz.ntmps98;go_wp2;go_ret;rw[E.out];exact⟨rfl,below_alloc _ _⟩
 subst qk;by_cases qV:V=0;rotate_left
 ·have dV:(V==0)=false:=by simp[qV]
  have E:Hid (Z=false):=by
   show Z=_;rw[hZ.out];unfold z9;simp[qV]
  clear hZ;go_enter Tryz.func98,Tryz.ntmps98;go_wp2;go_ret;rw[E.out];exact⟨rfl,below_alloc _ _⟩
 subst qV
 obtain⟨W,hW⟩:∃W,W=(w.alloc (.cells #[.int .i64 0,.int .i64 0,.int .i64 0,.int .i64 0,.int .i64 LM,.slice ao xs.length cap,.int .i64 H,.slice qo ys.length dap] 61)).alloc (.cells #[.int .i64 LM,.slice ao xs.length cap,.int .i64 H,.slice qo ys.length dap] 53):=⟨_,rfl⟩
 have bW:=yb2 hW
 have R:Hid (∀w0:World,w0=W→Calls Tryz.prog 151 #[.slice (some ⟨w.heap.size+1,0,none⟩) 2 2] w0 fun e w'=>e=.returned (.bool (norw [(LM,xs.length),(H,ys.length)]))∧Below w0.heap.size w0 w'):=fun w0 g=>by
  subst g;refine noRows_c _ 2 [(LM,xs.length),(H,ys.length)] w0 ?_ (by simp)
  have hx:=rws2 (w.alloc (.cells #[.int .i64 0,.int .i64 0,.int .i64 0,.int .i64 0,.int .i64 LM,.slice ao xs.length cap,.int .i64 H,.slice qo ys.length dap] 61)) LM ao xs.length cap H qo ys.length dap 53
  rw[show(w.alloc (.cells #[.int .i64 0,.int .i64 0,.int .i64 0,.int .i64 0,.int .i64 LM,.slice ao xs.length cap,.int .i64 H,.slice qo ys.length dap] 61)).heap.size=w.heap.size+1 by simp]at hx;rw[hW];exact hx
 subst hW;cases hn:norw [(LM,xs.length),(H,ys.length)]with
 | false=>
  have E:Hid (Z=false):=by
   show Z=_;rw[hZ.out];unfold z9;simp[hn]
  clear hZ;rw[hn]at R;go_enter Tryz.func98,Tryz.ntmps98;go_wp2_with fail;refine(R.out _ (by rfl)).mono ?_;rintro e w1 ⟨rfl,hb⟩;replace hb:=bW.trans (hb.mono bW.size);go_wp2;go_ret;rw[E.out];exact⟨rfl,hb⟩
 | true=>
  have E:Hid (Z=true):=by
   show Z=_;rw[hZ.out];unfold z9;simp[hn]
  clear hZ;rw[hn]at R;go_enter Tryz.func98,Tryz.ntmps98;go_wp2_with fail;refine(R.out _ (by rfl)).mono ?_;rintro e w1 ⟨rfl,hb⟩;replace hb:=bW.trans (hb.mono bW.size);go_wp2;go_ret;rw[E.out];exact⟨rfl,hb⟩
theorem parts{w:World}{b:Nat}{K:Value}{cp cr cf:List Value}{T:TypeId}(l4:cp.length=4)(l9:9=cr.length)(h:Cel w b (K::(cp++(cr++cf))) T):w.cell? ⟨b,0,none⟩=some K∧w.rangeAt b 1 cp∧w.rangeAt b 5 cr∧w.rangeAt b 14 cf:=by
 have a2:=Cel.part (K::cp) cr cf h;rw[List.length_cons,l4]at a2;have h':Cel w b ((K::(cp++cr))++(cf++[])) T:=by simpa using h
 have a3:=Cel.part (K::(cp++cr)) cf [] h';rw[List.length_cons,List.length_append,l4,←l9]at a3;exact⟨h.cell 0 rfl,Cel.part [K] cp (cr++cf) h,a2,a3⟩
theorem only_c(cs:List Value)(a:RA)(w:World)(h:KArg w cs a):
  Calls Tryz.prog 55 #[.agg cs.toArray] w fun e w'=>e=.returned (.int .i64 (kOn a))∧Below w.heap.size w w':=by
 obtain⟨cp,cr,cf,rfl,hK,h1,h2,h3⟩:=h;have l4:=Hid.mk8 h1.four;have l9:=Hid.mk8 h2.nine;have LP:=Hid.mk8 h1.len;have LR:=Hid.mk8 h2.len;have LF:=Hid.mk8 h3.len;obtain⟨K,p,r,f⟩:=a;dsimp only at *
 obtain⟨W,hW⟩:∃W,W=w.alloc (.cells (Value.int .i64 K::(cp++(cr++cf))).toArray 63):=⟨_,rfl⟩;have bw:Below w.heap.size w W:=by rw[hW];exact below_alloc w _
 have B0:=yc1 hW;obtain⟨O,hO⟩:∃O,Hid (O=kOn ⟨K,p,r,f⟩):=⟨_,rfl⟩;rw[←hO.out]
 have N7:Hid (∀w0,Below w.heap.size w w0→Calls Tryz.prog 96 #[.agg cp.toArray] w0 fun e w'=>e=.returned (.bool (z7 p))∧Below w0.heap.size w0 w'):=fun w0 g=>noPlain_c cp p w0 (h1.keep g)
 have N8:Hid (∀w0,Below w.heap.size w w0→Calls Tryz.prog 97 #[.agg cr.toArray] w0 fun e w'=>e=.returned (.bool (z8 r))∧Below w0.heap.size w0 w'):=fun w0 g=>noRrr_c cr r w0 (h2.keep g)
 have N9:Hid (∀w0,Below w.heap.size w w0→Calls Tryz.prog 98 #[.agg cf.toArray] w0 fun e w'=>e=.returned (.bool (z9 f))∧Below w0.heap.size w0 w'):=fun w0 g=>noFano_c cf f w0 (h3.keep g);clear h1 h2 h3;subst hW
 by_cases q1:K=1
 ·subst q1;cases y8:z8 r with
  | false=>
   have E:Hid (O=0):=by
    show O=_;rw[hO.out];unfold kOn kZs;simp[y8]
   rw[y8]at N8;clear hO;go_enter Tryz.func55,Tryz.ntmps55;obtain⟨c0,p1,p2,p3⟩:=parts l4.out l9.out B0;go_wp2_with (refine load_part w.heap.size 5 cr (by rfl) rfl p2 Tryz.underlying59 LR.out ?_)
   refine(N8.out _ bw).mono ?_;rintro e w8 ⟨rfl,hb⟩;replace B0:=B0.kept hb;replace bw:=bw.trans (hb.mono bw.size);clear hb c0 p1 p2 p3;obtain⟨c0,p1,p2,p3⟩:=parts l4.out l9.out B0;go_wp2;go_ret;rw[E.out]
   exact⟨rfl,bw⟩
  | true=>
   cases y9:z9 f with
   | false=>
    have E:Hid (O=0):=by
     show O=_;rw[hO.out];unfold kOn kZs;simp[y8,y9]
    rw[y8]at N8;rw[y9]at N9;clear hO;go_enter Tryz.func55,Tryz.ntmps55;obtain⟨c0,p1,p2,p3⟩:=parts l4.out l9.out B0;go_wp2_with (refine load_part w.heap.size 5 cr (by rfl) rfl p2 Tryz.underlying59 LR.out ?_)
    refine(N8.out _ bw).mono ?_;rintro e w8 ⟨rfl,hb⟩;replace B0:=B0.kept hb;replace bw:=bw.trans (hb.mono bw.size);clear hb c0 p1 p2 p3;obtain⟨c0,p1,p2,p3⟩:=parts l4.out l9.out B0
    go_wp2_with (refine load_part w.heap.size 14 cf (by rfl) rfl p3 Tryz.underlying61 LF.out ?_);refine(N9.out _ bw).mono ?_;rintro e w9 ⟨rfl,hb⟩;replace B0:=B0.kept hb;replace bw:=bw.trans (hb.mono bw.size)
    clear hb c0 p1 p2 p3;obtain⟨c0,p1,p2,p3⟩:=parts l4.out l9.out B0;go_wp2;go_ret;rw[E.out];exact⟨rfl,bw⟩
   | true=>
    have E:Hid (O=1):=by
     show O=_;rw[hO.out];unfold kOn kZs;simp[y8,y9]
    rw[y8]at N8;rw[y9]at N9;clear hO;go_enter Tryz.func55,Tryz.ntmps55;obtain⟨c0,p1,p2,p3⟩:=parts l4.out l9.out B0;go_wp2_with (refine load_part w.heap.size 5 cr (by rfl) rfl p2 Tryz.underlying59 LR.out ?_)
    refine(N8.out _ bw).mono ?_;rintro e w8 ⟨rfl,hb⟩;replace B0:=B0.kept hb;replace bw:=bw.trans (hb.mono bw.size);clear hb c0 p1 p2 p3;obtain⟨c0,p1,p2,p3⟩:=parts l4.out l9.out B0
    go_wp2_with (refine load_part w.heap.size 14 cf (by rfl) rfl p3 Tryz.underlying61 LF.out ?_);refine(N9.out _ bw).mono ?_;rintro e w9 ⟨rfl,hb⟩;replace B0:=B0.kept hb;replace bw:=bw.trans (hb.mono bw.size)
    clear hb c0 p1 p2 p3;obtain⟨c0,p1,p2,p3⟩:=parts l4.out l9.out B0;go_wp2;go_ret;rw[E.out];exact⟨rfl,bw⟩
 have d1:(K != 1)=true:=by simp[q1]
 by_cases q2:K=2
 ·subst q2;cases y7:z7 p with
  | false=>
   have E:Hid (O=0):=by
    show O=_;rw[hO.out];unfold kOn kZs;simp[y7]
   rw[y7]at N7;clear hO;go_enter Tryz.func55,Tryz.ntmps55;obtain⟨c0,p1,p2,p3⟩:=parts l4.out l9.out B0;go_wp2_with (refine load_part w.heap.size 1 cp (by rfl) rfl p1 Tryz.underlying55 LP.out ?_)
   refine(N7.out _ bw).mono ?_;rintro e w7 ⟨rfl,hb⟩;replace B0:=B0.kept hb;replace bw:=bw.trans (hb.mono bw.size);clear hb c0 p1 p2 p3;obtain⟨c0,p1,p2,p3⟩:=parts l4.out l9.out B0;go_wp2;go_ret;rw[E.out]
   exact⟨rfl,bw⟩
  | true=>
   cases y9:z9 f with
   | false=>
    have E:Hid (O=0):=by
     show O=_;rw[hO.out];unfold kOn kZs;simp[y7,y9]
    rw[y7]at N7;rw[y9]at N9;clear hO;go_enter Tryz.func55,Tryz.ntmps55;obtain⟨c0,p1,p2,p3⟩:=parts l4.out l9.out B0;go_wp2_with (refine load_part w.heap.size 1 cp (by rfl) rfl p1 Tryz.underlying55 LP.out ?_)
    refine(N7.out _ bw).mono ?_;rintro e w7 ⟨rfl,hb⟩;replace B0:=B0.kept hb;replace bw:=bw.trans (hb.mono bw.size);clear hb c0 p1 p2 p3;obtain⟨c0,p1,p2,p3⟩:=parts l4.out l9.out B0
    go_wp2_with (refine load_part w.heap.size 14 cf (by rfl) rfl p3 Tryz.underlying61 LF.out ?_);refine(N9.out _ bw).mono ?_;rintro e w9 ⟨rfl,hb⟩;replace B0:=B0.kept hb;replace bw:=bw.trans (hb.mono bw.size)
    clear hb c0 p1 p2 p3;obtain⟨c0,p1,p2,p3⟩:=parts l4.out l9.out B0;go_wp2;go_ret;rw[E.out];exact⟨rfl,bw⟩
   | true=>
    have E:Hid (O=2):=by
     show O=_;rw[hO.out];unfold kOn kZs;simp[y7,y9]
    rw[y7]at N7;rw[y9]at N9;clear hO;go_enter Tryz.func55,Tryz.ntmps55;obtain⟨c0,p1,p2,p3⟩:=parts l4.out l9.out B0;go_wp2_with (refine load_part w.heap.size 1 cp (by rfl) rfl p1 Tryz.underlying55 LP.out ?_)
    refine(N7.out _ bw).mono ?_;rintro e w7 ⟨rfl,hb⟩;replace B0:=B0.kept hb;replace bw:=bw.trans (hb.mono bw.size);clear hb c0 p1 p2 p3;obtain⟨c0,p1,p2,p3⟩:=parts l4.out l9.out B0
    go_wp2_with (refine load_part w.heap.size 14 cf (by rfl) rfl p3 Tryz.underlying61 LF.out ?_);refine(N9.out _ bw).mono ?_;rintro e w9 ⟨rfl,hb⟩;replace B0:=B0.kept hb;replace bw:=bw.trans (hb.mono bw.size)
    clear hb c0 p1 p2 p3;obtain⟨c0,p1,p2,p3⟩:=parts l4.out l9.out B0;go_wp2;go_ret;rw[E.out];exact⟨rfl,bw⟩
 have d2:(K != 2)=true:=by simp[q2]
 by_cases q3:K=3
 ·subst q3;cases y7:z7 p with
  | false=>
   have E:Hid (O=0):=by
    show O=_;rw[hO.out];unfold kOn kZs;simp[y7]
   rw[y7]at N7;clear hO;go_enter Tryz.func55,Tryz.ntmps55;obtain⟨c0,p1,p2,p3⟩:=parts l4.out l9.out B0;go_wp2_with (refine load_part w.heap.size 1 cp (by rfl) rfl p1 Tryz.underlying55 LP.out ?_)
   refine(N7.out _ bw).mono ?_;rintro e w7 ⟨rfl,hb⟩;replace B0:=B0.kept hb;replace bw:=bw.trans (hb.mono bw.size);clear hb c0 p1 p2 p3;obtain⟨c0,p1,p2,p3⟩:=parts l4.out l9.out B0;go_wp2;go_ret;rw[E.out]
   exact⟨rfl,bw⟩
  | true=>
   cases y8:z8 r with
   | false=>
    have E:Hid (O=0):=by
     show O=_;rw[hO.out];unfold kOn kZs;simp[y7,y8]
    rw[y7]at N7;rw[y8]at N8;clear hO;go_enter Tryz.func55,Tryz.ntmps55;obtain⟨c0,p1,p2,p3⟩:=parts l4.out l9.out B0;go_wp2_with (refine load_part w.heap.size 1 cp (by rfl) rfl p1 Tryz.underlying55 LP.out ?_)
    refine(N7.out _ bw).mono ?_;rintro e w7 ⟨rfl,hb⟩;replace B0:=B0.kept hb;replace bw:=bw.trans (hb.mono bw.size);clear hb c0 p1 p2 p3;obtain⟨c0,p1,p2,p3⟩:=parts l4.out l9.out B0
    go_wp2_with (refine load_part w.heap.size 5 cr (by rfl) rfl p2 Tryz.underlying59 LR.out ?_);refine(N8.out _ bw).mono ?_;rintro e w8 ⟨rfl,hb⟩;replace B0:=B0.kept hb;replace bw:=bw.trans (hb.mono bw.size)
    clear hb c0 p1 p2 p3;obtain⟨c0,p1,p2,p3⟩:=parts l4.out l9.out B0;go_wp2;go_ret;rw[E.out];exact⟨rfl,bw⟩
   | true=>
    have E:Hid (O=3):=by
     show O=_;rw[hO.out];unfold kOn kZs;simp[y7,y8]
    rw[y7]at N7;rw[y8]at N8;clear hO;go_enter Tryz.func55,Tryz.ntmps55;obtain⟨c0,p1,p2,p3⟩:=parts l4.out l9.out B0;go_wp2_with (refine load_part w.heap.size 1 cp (by rfl) rfl p1 Tryz.underlying55 LP.out ?_)
    refine(N7.out _ bw).mono ?_;rintro e w7 ⟨rfl,hb⟩;replace B0:=B0.kept hb;replace bw:=bw.trans (hb.mono bw.size);clear hb c0 p1 p2 p3;obtain⟨c0,p1,p2,p3⟩:=parts l4.out l9.out B0
    go_wp2_with (refine load_part w.heap.size 5 cr (by rfl) rfl p2 Tryz.underlying59 LR.out ?_);refine(N8.out _ bw).mono ?_;rintro e w8 ⟨rfl,hb⟩;replace B0:=B0.kept hb;replace bw:=bw.trans (hb.mono bw.size)
    clear hb c0 p1 p2 p3;obtain⟨c0,p1,p2,p3⟩:=parts l4.out l9.out B0;go_wp2;go_ret;rw[E.out];exact⟨rfl,bw⟩
 have d3:(K != 3)=true:=by simp[q3]
 cases y7:z7 p with
 | false=>
  have E:Hid (O=0):=by
   show O=_;rw[hO.out];unfold kOn kZs;simp[q1,q2,q3,y7]
  rw[y7]at N7;clear hO;go_enter Tryz.func55,Tryz.ntmps55;obtain⟨c0,p1,p2,p3⟩:=parts l4.out l9.out B0;go_wp2_with (refine load_part w.heap.size 1 cp (by rfl) rfl p1 Tryz.underlying55 LP.out ?_)
  refine(N7.out _ bw).mono ?_;rintro e w7 ⟨rfl,hb⟩;replace B0:=B0.kept hb;replace bw:=bw.trans (hb.mono bw.size);clear hb c0 p1 p2 p3;obtain⟨c0,p1,p2,p3⟩:=parts l4.out l9.out B0;go_wp2;go_ret;rw[E.out]
  exact⟨rfl,bw⟩
 | true=>
  cases y8:z8 r with
  | false=>
   have E:Hid (O=0):=by
    show O=_;rw[hO.out];unfold kOn kZs;simp[q1,q2,q3,y7,y8]
   rw[y7]at N7;rw[y8]at N8;clear hO;go_enter Tryz.func55,Tryz.ntmps55;obtain⟨c0,p1,p2,p3⟩:=parts l4.out l9.out B0;go_wp2_with (refine load_part w.heap.size 1 cp (by rfl) rfl p1 Tryz.underlying55 LP.out ?_)
   refine(N7.out _ bw).mono ?_;rintro e w7 ⟨rfl,hb⟩;replace B0:=B0.kept hb;replace bw:=bw.trans (hb.mono bw.size);clear hb c0 p1 p2 p3;obtain⟨c0,p1,p2,p3⟩:=parts l4.out l9.out B0
   go_wp2_with (refine load_part w.heap.size 5 cr (by rfl) rfl p2 Tryz.underlying59 LR.out ?_);refine(N8.out _ bw).mono ?_;rintro e w8 ⟨rfl,hb⟩;replace B0:=B0.kept hb;replace bw:=bw.trans (hb.mono bw.size)
   clear hb c0 p1 p2 p3;obtain⟨c0,p1,p2,p3⟩:=parts l4.out l9.out B0;go_wp2;go_ret;rw[E.out];exact⟨rfl,bw⟩
  | true=>
   cases y9:z9 f with
   | false=>
    have E:Hid (O=0):=by
     show O=_;rw[hO.out];unfold kOn kZs;simp[q1,q2,q3,y7,y8,y9]
    rw[y7]at N7;rw[y8]at N8;rw[y9]at N9;clear hO;go_enter Tryz.func55,Tryz.ntmps55;obtain⟨c0,p1,p2,p3⟩:=parts l4.out l9.out B0
    go_wp2_with (refine load_part w.heap.size 1 cp (by rfl) rfl p1 Tryz.underlying55 LP.out ?_);refine(N7.out _ bw).mono ?_;rintro e w7 ⟨rfl,hb⟩;replace B0:=B0.kept hb;replace bw:=bw.trans (hb.mono bw.size)
    clear hb c0 p1 p2 p3;obtain⟨c0,p1,p2,p3⟩:=parts l4.out l9.out B0;go_wp2_with (refine load_part w.heap.size 5 cr (by rfl) rfl p2 Tryz.underlying59 LR.out ?_);refine(N8.out _ bw).mono ?_;rintro e w8 ⟨rfl,hb⟩
    replace B0:=B0.kept hb;replace bw:=bw.trans (hb.mono bw.size);clear hb c0 p1 p2 p3;obtain⟨c0,p1,p2,p3⟩:=parts l4.out l9.out B0
    go_wp2_with (refine load_part w.heap.size 14 cf (by rfl) rfl p3 Tryz.underlying61 LF.out ?_);refine(N9.out _ bw).mono ?_;rintro e w9 ⟨rfl,hb⟩;replace B0:=B0.kept hb;replace bw:=bw.trans (hb.mono bw.size)
    clear hb c0 p1 p2 p3;obtain⟨c0,p1,p2,p3⟩:=parts l4.out l9.out B0;go_wp2;go_ret;rw[E.out];exact⟨rfl,bw⟩
   | true=>
    have E:Hid (O=K):=by
     show O=_;rw[hO.out];unfold kOn kZs;simp[q1,q2,q3,y7,y8,y9]
    rw[y7]at N7;rw[y8]at N8;rw[y9]at N9;clear hO;go_enter Tryz.func55,Tryz.ntmps55;obtain⟨c0,p1,p2,p3⟩:=parts l4.out l9.out B0
    go_wp2_with (refine load_part w.heap.size 1 cp (by rfl) rfl p1 Tryz.underlying55 LP.out ?_);refine(N7.out _ bw).mono ?_;rintro e w7 ⟨rfl,hb⟩;replace B0:=B0.kept hb;replace bw:=bw.trans (hb.mono bw.size)
    clear hb c0 p1 p2 p3;obtain⟨c0,p1,p2,p3⟩:=parts l4.out l9.out B0;go_wp2_with (refine load_part w.heap.size 5 cr (by rfl) rfl p2 Tryz.underlying59 LR.out ?_);refine(N8.out _ bw).mono ?_;rintro e w8 ⟨rfl,hb⟩
    replace B0:=B0.kept hb;replace bw:=bw.trans (hb.mono bw.size);clear hb c0 p1 p2 p3;obtain⟨c0,p1,p2,p3⟩:=parts l4.out l9.out B0
    go_wp2_with (refine load_part w.heap.size 14 cf (by rfl) rfl p3 Tryz.underlying61 LF.out ?_);refine(N9.out _ bw).mono ?_;rintro e w9 ⟨rfl,hb⟩;replace B0:=B0.kept hb;replace bw:=bw.trans (hb.mono bw.size)
    clear hb c0 p1 p2 p3;obtain⟨c0,p1,p2,p3⟩:=parts l4.out l9.out B0;go_wp2;go_ret;rw[E.out];exact⟨rfl,bw⟩
end Go.Proofs.YtleegaihbgbcjabGreatDoor
