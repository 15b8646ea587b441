import Derived.Test.YtleegaihbgbcjabGreatDoorT09
import Derived.Deep.MidRow
set_option linter.unusedVariables false
set_option linter.unusedSimpArgs false
set_option maxRecDepth 100000
set_option maxHeartbeats 16000000
open Go.Proofs.Tryz
namespace Go.Proofs.YtleegaihbgbcjabGreatDoor
open Go.RowKit Go.Shelf Num Bit
theorem Kb(cs:List Value)(a:bF)(i:Int)(w:World)(h:bJ w cs a)(hi:aD i):
  Qq 58 #[.agg cs.toArray,.int .i64 i] w (.tuple #[.bool (gaB (kOk9 a) (kBN9 a) (kBX9 a) i),.int .i64 (gaE (kOk9 a) (kBN9 a) (kBX9 a) i)]):=by
 obtain⟨P1,hP1⟩:∃P:Bool,Hid (P=gaB (kOk9 a) (kBN9 a) (kBX9 a) i):=⟨gaB (kOk9 a) (kBN9 a) (kBX9 a) i,(rfl:gaB (kOk9 a) (kBN9 a) (kBX9 a) i=gaB (kOk9 a) (kBN9 a) (kBX9 a) i)⟩
 obtain⟨P2,hP2⟩:∃P:Int,Hid (P=gaE (kOk9 a) (kBN9 a) (kBX9 a) i):=⟨gaE (kOk9 a) (kBN9 a) (kBX9 a) i,(rfl:gaE (kOk9 a) (kBN9 a) (kBX9 a) i=gaE (kOk9 a) (kBN9 a) (kBX9 a) i)⟩;rw[<-hP1.out,<-hP2.out]
 cases hk:kOk9 a with
 | false=>
  have CC:=i7 h false hk
  have E:Hid (P1=false/\P2=2):=by
   show _/\_;rw[hP1.out,hP2.out];unfold gaB gaE;rw[hk];exact⟨rfl,rfl⟩
  obtain⟨⟨ao,cap,qo,dap,rfl,_⟩,_⟩:=h;obtain⟨N,M,k,V,LM,xs,H,ys⟩:=a;dsimp only at *;clear hP1 hP2
  obtain⟨W,hW⟩:∃W,W=w.alloc (.cells #[.int .i64 N,.int .i64 M,.int .i64 k,.int .i64 V,.int .i64 LM,.slice ao xs.length cap,.int .i64 H,.slice qo ys.length dap] 61):=⟨_,rfl⟩;have bW:=aU hW;have B1:=bn hW
  go_enter func58,ntmps58;go_wp2_with fail;rw[<-hW];refine mr (CC.out _ bW) fun w1 hb=>?_;have bw1:=bg bW hb;replace B1:=B1.kept hb;clear hb CC hW bW;go_wp2;go_ret2
  rw[E.out.1,E.out.2];exact⟨rfl,bw1⟩
 | true=>
  have CC:=i7 h true hk;have hck:=lU a hk;obtain⟨n,mm,kn,vn,hh,LM,xs,ys,rfl⟩:=lR a hk;obtain⟨F,hl,hg,hr⟩:=ji n mm kn vn hh LM xs ys hk
  have e1:kBN9 ⟨n,mm,kn,vn,LM,xs,hh,ys⟩=(n:Int):=by unfold kBN9;rw[if_pos hk]
  have e2:kBX9 ⟨n,mm,kn,vn,LM,xs,hh,ys⟩=rowOf n (isIn (kRow ⟨n,mm,kn,vn,LM,xs,hh,ys⟩)):=by unfold kBX9;rw[if_pos hk];rfl
  rw[e1,e2]at hck;rw[hk,e1,e2]at hP1;rw[hk,e1,e2]at hP2;generalize kRow ⟨n,mm,kn,vn,LM,xs,hh,ys⟩=l at *;obtain⟨⟨ao,cap,qo,dap,rfl,ir,a1,a2,a3,a4,a5,a6⟩,n3,xl,yl⟩:=h;dsimp only at *
  have nl:=F.hn;have ml:=F.hm;clear hk e1 e2 n3 xl yl ir
  obtain⟨W,hW⟩:∃W,W=w.alloc (.cells #[.int .i64 (n:Nat),.int .i64 (mm:Nat),.int .i64 (kn:Nat),.int .i64 (vn:Nat),.int .i64 LM,.slice ao xs.length cap,.int .i64 (hh:Nat),.slice qo ys.length dap] 61):=⟨_,rfl⟩
  have bW:=aU hW;have B1:=bn hW;by_cases i0:i<0\/(n:Int)<=i
  .have E:Hid (P1=false/\P2=3):=by
    show _/\_;rw[hP1.out,hP2.out];unfold gaB gaE gy du;rw[hck,if_pos rfl,if_neg (by simp),if_pos i0,decide_eq_false (by omega)];exact⟨rfl,rfl⟩
   clear hP1 hP2 hck hl hg hr F a1 a4 a2 a5;rcases i0 with i0 | i0
   .skip;go_enter func58,ntmps58;go_wp2_with fail;rw[<-hW];refine mr (CC.out _ bW) fun w1 hb=>?_;have bw1:=bg bW hb;replace B1:=B1.kept hb;clear hb CC hW bW
    have q0:=B1.cell 0 rfl;go_wp2;go_ret2;rw[E.out.1,E.out.2];exact⟨rfl,bw1⟩
   .skip;have i1:¬i<0:=by omega
    go_enter func58,ntmps58;go_wp2_with fail;rw[<-hW];refine mr (CC.out _ bW) fun w1 hb=>?_;have bw1:=bg bW hb;replace B1:=B1.kept hb;clear hb CC hW bW;have q0:=B1.cell 0 rfl
    go_wp2;go_ret2;rw[E.out.1,E.out.2];exact⟨rfl,bw1⟩
  .obtain⟨j,rfl⟩:=Int.eq_ofNat_of_zero_le (show 0<=i by omega)
   have E:Hid (P1=isIn l j/\P2=0):=by
    show _/\_;rw[hP1.out,hP2.out];unfold gaB gaE gy du;rw[hck,if_pos rfl,if_neg (by simp),if_neg i0,decide_eq_true (by omega),Int.toNat_natCast,pA n l hr];exact⟨rfl,rfl⟩
   have C2:Hid (Qz w 104 #[.agg #[.int .i64 (n:Nat),.int .i64 (mm:Nat),.int .i64 (kn:Nat),.int .i64 (vn:Nat),.int .i64 LM,.slice ao xs.length cap,.int .i64 (hh:Nat),.slice qo ys.length dap],.int .i64 (j:Nat)] (.bool (isIn l j))):=fun w0 hb=>GC n mm kn vn hh LM ao xs cap qo ys dap l w0 F (a1.keep hb) a2 (a4.keep hb) a5 hl hg hr j (by omega)
   have i1:¬(j:Int)<0:=by omega
   have i2:¬(n:Int)<=(j:Int):=by omega
   clear hP1 hP2 hck hl hg hr F a1 a4 a2 a5 i0;go_enter func58,ntmps58;go_wp2_with fail;rw[<-hW];refine mr (CC.out _ bW) fun w1 hb=>?_;have bw1:=bg bW hb;replace B1:=B1.kept hb
   clear hb CC hW bW;have q0:=B1.cell 0 rfl;have q1:=B1.cell 1 rfl;have q2:=B1.cell 2 rfl;have q3:=B1.cell 3 rfl;have q4:=B1.cell 4 rfl;have q5:=B1.cell 5 rfl;have q6:=B1.cell 6 rfl;have q7:=B1.cell 7 rfl
   go_wp2_with fail;refine mr (C2.out _ bw1) fun w2 hb=>?_;have bw2:=bg bw1 hb;clear hb;go_wp2;go_ret2;rw[E.out.1,E.out.2];exact⟨rfl,bw2⟩
theorem Bi(cs:List Value)(a:bF)(bit:Bool)(i:Int)(w:World)(h:bJ w cs a)(hi:aD i):
  Qq 78 #[.agg cs.toArray,.bool bit,.int .i64 i] w (.tuple #[.int .i64 (grN (kOk9 a) (kBN9 a) (kBX9 a) bit i),.int .i64 (grE (kOk9 a) (kBN9 a) i)]):=by
 obtain⟨P1,hP1⟩:∃P:Int,Hid (P=grN (kOk9 a) (kBN9 a) (kBX9 a) bit i):=⟨grN (kOk9 a) (kBN9 a) (kBX9 a) bit i,(rfl:grN (kOk9 a) (kBN9 a) (kBX9 a) bit i=grN (kOk9 a) (kBN9 a) (kBX9 a) bit i)⟩
 obtain⟨P2,hP2⟩:∃P:Int,Hid (P=grE (kOk9 a) (kBN9 a) i):=⟨grE (kOk9 a) (kBN9 a) i,(rfl:grE (kOk9 a) (kBN9 a) i=grE (kOk9 a) (kBN9 a) i)⟩;rw[<-hP1.out,<-hP2.out];cases hk:kOk9 a with
 | false=>
  have CC:=i7 h false hk
  have E:Hid (P1=0/\P2=2):=by
   show _/\_;rw[hP1.out,hP2.out];unfold grN grE;rw[hk];exact⟨rfl,rfl⟩
  obtain⟨⟨ao,cap,qo,dap,rfl,_⟩,_⟩:=h;obtain⟨N,M,k,V,LM,xs,H,ys⟩:=a;dsimp only at *;clear hP1 hP2
  obtain⟨W,hW⟩:∃W,W=w.alloc (.cells #[.int .i64 N,.int .i64 M,.int .i64 k,.int .i64 V,.int .i64 LM,.slice ao xs.length cap,.int .i64 H,.slice qo ys.length dap] 61):=⟨_,rfl⟩;have bW:=aU hW;have B1:=bn hW
  go_enter func78,ntmps78;go_wp2_with fail;rw[<-hW];refine mr (CC.out _ bW) fun w1 hb=>?_;have bw1:=bg bW hb;replace B1:=B1.kept hb;clear hb CC hW bW;go_wp2;go_ret2
  rw[E.out.1,E.out.2];exact⟨rfl,bw1⟩
 | true=>
  have CC:=i7 h true hk;have hck:=lU a hk;obtain⟨n,mm,kn,vn,hh,LM,xs,ys,rfl⟩:=lR a hk;obtain⟨F,hl,hg,hr⟩:=ji n mm kn vn hh LM xs ys hk
  have e1:kBN9 ⟨n,mm,kn,vn,LM,xs,hh,ys⟩=(n:Int):=by unfold kBN9;rw[if_pos hk]
  have e2:kBX9 ⟨n,mm,kn,vn,LM,xs,hh,ys⟩=rowOf n (isIn (kRow ⟨n,mm,kn,vn,LM,xs,hh,ys⟩)):=by unfold kBX9;rw[if_pos hk];rfl
  rw[e1,e2]at hck;rw[hk,e1,e2]at hP1;rw[hk,e1]at hP2;generalize kRow ⟨n,mm,kn,vn,LM,xs,hh,ys⟩=l at *;obtain⟨⟨ao,cap,qo,dap,rfl,ir,a1,a2,a3,a4,a5,a6⟩,n3,xl,yl⟩:=h;dsimp only at *;have nl:=F.hn
  have ml:=F.hm;clear hk e1 e2 n3 xl yl ir
  obtain⟨W,hW⟩:∃W,W=w.alloc (.cells #[.int .i64 (n:Nat),.int .i64 (mm:Nat),.int .i64 (kn:Nat),.int .i64 (vn:Nat),.int .i64 LM,.slice ao xs.length cap,.int .i64 (hh:Nat),.slice qo ys.length dap] 61):=⟨_,rfl⟩
  have bW:=aU hW;have B1:=bn hW;by_cases i0:i<0\/(n:Int)<i
  .have E:Hid (P1=0/\P2=3):=by
    show _/\_;rw[hP1.out,hP2.out];unfold grN grE;rw[if_pos rfl,if_pos i0];exact⟨rfl,rfl⟩
   clear hP1 hP2 hck hl hg hr F a1 a4 a2 a5;rcases i0 with i0 | i0
   .skip;go_enter func78,ntmps78;go_wp2_with fail;rw[<-hW];refine mr (CC.out _ bW) fun w1 hb=>?_;have bw1:=bg bW hb;replace B1:=B1.kept hb;clear hb CC hW bW
    have q0:=B1.cell 0 rfl;go_wp2;go_ret2;rw[E.out.1,E.out.2];exact⟨rfl,bw1⟩
   .skip;have i1:¬i<0:=by omega
    go_enter func78,ntmps78;go_wp2_with fail;rw[<-hW];refine mr (CC.out _ bW) fun w1 hb=>?_;have bw1:=bg bW hb;replace B1:=B1.kept hb;clear hb CC hW bW;have q0:=B1.cell 0 rfl
    go_wp2;go_ret2;rw[E.out.1,E.out.2];exact⟨rfl,bw1⟩
  .obtain⟨j,rfl⟩:=Int.eq_ofNat_of_zero_le (show 0<=i by omega);obtain⟨c,hc⟩:∃c,c=cntB (rowOf n (isIn l)) j:=⟨_,rfl⟩;have cj:c<=j:=by rw[hc];exact fW _ _
   have E:Hid (P1=((if bit then c else j-c:Nat):Int)/\P2=0):=by
    show _/\_;rw[hP1.out,hP2.out];unfold grN grE;rw[if_pos rfl,if_neg i0,if_pos rfl,Int.toNat_natCast];unfold cB;rw[<-hc];exact⟨rfl,rfl⟩
   have C2:Hid (Qz w 129 #[.agg #[.int .i64 (n:Nat),.int .i64 (mm:Nat),.int .i64 (kn:Nat),.int .i64 (vn:Nat),.int .i64 LM,.slice ao xs.length cap,.int .i64 (hh:Nat),.slice qo ys.length dap],.int .i64 (j:Nat)] (.int .i64 (c:Nat))):=fun w0 hb=>Gy n mm kn vn hh LM ao xs cap qo ys dap l w0 F (a1.keep hb) a2 (a4.keep hb) a5 hl hg hr j (by omega) c (by rw[hc];exact ph hr j)
   have C3:Hid (∀w0,Qx 128 #[.bool bit,.int .i64 (j:Nat),.int .i64 (c:Nat)] w0 (.int .i64 ((if bit then c else j-c:Nat):Int))):=fun w0=>wI bit j c (by omega) cj w0
   have i1:¬(j:Int)<0:=by omega
   have i2:¬(n:Int)<(j:Int):=by omega
   clear hP1 hP2 hck hl hg hr F a1 a4 a2 a5 i0 hc;generalize (if bit then c else j-c:Nat)=R at *;go_enter func78,ntmps78;go_wp2_with fail;rw[<-hW];refine mr (CC.out _ bW) fun w1 hb=>?_
   have bw1:=bg bW hb;replace B1:=B1.kept hb;clear hb CC hW bW;have q0:=B1.cell 0 rfl;have q1:=B1.cell 1 rfl;have q2:=B1.cell 2 rfl;have q3:=B1.cell 3 rfl;have q4:=B1.cell 4 rfl
   have q5:=B1.cell 5 rfl;have q6:=B1.cell 6 rfl;have q7:=B1.cell 7 rfl;go_wp2_with fail;refine mr (C2.out _ bw1) fun w2 hb=>?_;have bw2:=bg bw1 hb;clear hb;go_wp2_with fail
   refine mr (C3.out _) fun w3 h3=>?_;rw[h3];clear h3 w3;go_wp2;go_ret2;rw[E.out.1,E.out.2];exact⟨rfl,bw2⟩
theorem zT(cs:List Value)(a:bF)(bit:Bool)(k:Int)(w:World)(h:bJ w cs a)(hi:aD k):
  Qq 125 #[.agg cs.toArray,.bool bit,.int .i64 k] w (.tuple #[.int .i64 (gsX (kOk9 a) (kBN9 a) (kBX9 a) bit k),.int .i64 (gsE (kOk9 a) (kBN9 a) (kBX9 a) bit k)]):=by
 obtain⟨P1,hP1⟩:∃P:Int,Hid (P=gsX (kOk9 a) (kBN9 a) (kBX9 a) bit k):=⟨gsX (kOk9 a) (kBN9 a) (kBX9 a) bit k,(rfl:gsX (kOk9 a) (kBN9 a) (kBX9 a) bit k=gsX (kOk9 a) (kBN9 a) (kBX9 a) bit k)⟩
 obtain⟨P2,hP2⟩:∃P:Int,Hid (P=gsE (kOk9 a) (kBN9 a) (kBX9 a) bit k):=⟨gsE (kOk9 a) (kBN9 a) (kBX9 a) bit k,(rfl:gsE (kOk9 a) (kBN9 a) (kBX9 a) bit k=gsE (kOk9 a) (kBN9 a) (kBX9 a) bit k)⟩;rw[<-hP1.out,<-hP2.out]
 cases hk:kOk9 a with
 | false=>
  have CC:=i7 h false hk
  have E:Hid (P1=0/\P2=2):=by
   show _/\_;rw[hP1.out,hP2.out];unfold gsX gsE;rw[hk];exact⟨rfl,rfl⟩
  obtain⟨⟨ao,cap,qo,dap,rfl,_⟩,_⟩:=h;obtain⟨N,M,k0,V,LM,xs,H,ys⟩:=a;dsimp only at *;clear hP1 hP2
  obtain⟨W,hW⟩:∃W,W=w.alloc (.cells #[.int .i64 N,.int .i64 M,.int .i64 k0,.int .i64 V,.int .i64 LM,.slice ao xs.length cap,.int .i64 H,.slice qo ys.length dap] 61):=⟨_,rfl⟩;have bW:=aU hW;have B1:=bn hW
  go_enter func125,ntmps125;go_wp2_with fail;rw[<-hW];refine mr (CC.out _ bW) fun w1 hb=>?_;have bw1:=bg bW hb;replace B1:=B1.kept hb;clear hb CC hW bW;go_wp2;go_ret2
  rw[E.out.1,E.out.2];exact⟨rfl,bw1⟩
 | true=>
  have CC:=i7 h true hk;have hck:=lU a hk;obtain⟨n,mm,kn,vn,hh,LM,xs,ys,rfl⟩:=lR a hk;obtain⟨F,hl,hg,hr⟩:=ji n mm kn vn hh LM xs ys hk
  have e1:kBN9 ⟨n,mm,kn,vn,LM,xs,hh,ys⟩=(n:Int):=by unfold kBN9;rw[if_pos hk]
  have e2:kBX9 ⟨n,mm,kn,vn,LM,xs,hh,ys⟩=rowOf n (isIn (kRow ⟨n,mm,kn,vn,LM,xs,hh,ys⟩)):=by unfold kBX9;rw[if_pos hk];rfl
  rw[e1,e2]at hck;rw[hk,e1,e2]at hP1;rw[hk,e1,e2]at hP2;generalize kRow ⟨n,mm,kn,vn,LM,xs,hh,ys⟩=l at *;obtain⟨⟨ao,cap,qo,dap,rfl,ir,a1,a2,a3,a4,a5,a6⟩,n3,xl,yl⟩:=h;dsimp only at *
  have nl:=F.hn;have ml:=F.hm;clear hk e1 e2 n3 xl yl ir
  obtain⟨W,hW⟩:∃W,W=w.alloc (.cells #[.int .i64 (n:Nat),.int .i64 (mm:Nat),.int .i64 (kn:Nat),.int .i64 (vn:Nat),.int .i64 LM,.slice ao xs.length cap,.int .i64 (hh:Nat),.slice qo ys.length dap] 61):=⟨_,rfl⟩
  have bW:=aU hW;have B1:=bn hW
  have all:cB (rowOf n (isIn l)) bit n=if bit then mm else n-mm:=by
   unfold cB;rw[Ip hr,hl]
  have IFF:=kj (n:Int) (rowOf n (isIn l)) bit k;rw[Int.toNat_natCast,all]at IFF
  have C3:Hid (∀w0,Qx 128 #[.bool bit,.int .i64 (n:Nat),.int .i64 (mm:Nat)] w0 (.int .i64 ((if bit then mm else n-mm:Nat):Int))):=fun w0=>wI bit n mm nl ml w0
  obtain⟨R,hR⟩:∃R,Hid (R=if bit then mm else n-mm):=⟨_,rfl⟩;rw[<-hR.out]at IFF C3;have RR:R<=1048576:=by rw[hR.out];split<;>omega
  by_cases i0:k<0\/(R:Int)<=k
  .have E:Hid (P1=0/\P2=3):=by
    show _/\_
    have hn:dc (n:Int) (rowOf n (isIn l)) bit k=none:=by
     cases e:dc (n:Int) (rowOf n (isIn l)) bit k with
     | none=>rfl
     | some x=>
      rw[e]at IFF;have:=IFF.1 rfl;omega
    rw[hP1.out,hP2.out];unfold gsX gsE;rw[hn];exact⟨rfl,rfl⟩
   clear hP1 hP2 hck hl hg hr F a1 a4 a2 a5 IFF all;rcases i0 with i0 | i0
   .skip;go_enter func125,ntmps125;go_wp2_with fail;rw[<-hW];refine mr (CC.out _ bW) fun w1 hb=>?_;have bw1:=bg bW hb;replace B1:=B1.kept hb;clear hb CC hW bW
    have q0:=B1.cell 0 rfl;have q1:=B1.cell 1 rfl;go_wp2;go_ret2;rw[E.out.1,E.out.2];exact⟨rfl,bw1⟩
   .by_cases i1:k<0
    .skip;go_enter func125,ntmps125;go_wp2_with fail;rw[<-hW];refine mr (CC.out _ bW) fun w1 hb=>?_;have bw1:=bg bW hb;replace B1:=B1.kept hb;clear hb CC hW bW
     have q0:=B1.cell 0 rfl;have q1:=B1.cell 1 rfl;go_wp2;go_ret2;rw[E.out.1,E.out.2];exact⟨rfl,bw1⟩
    .skip;go_enter func125,ntmps125;go_wp2_with fail;rw[<-hW];refine mr (CC.out _ bW) fun w1 hb=>?_;have bw1:=bg bW hb;replace B1:=B1.kept hb;clear hb CC hW bW
     have q0:=B1.cell 0 rfl;have q1:=B1.cell 1 rfl;go_wp2_with fail;refine mr (C3.out _) fun w3 h3=>?_;rw[h3];clear h3 w3;go_wp2;go_ret2;rw[E.out.1,E.out.2];exact⟨rfl,bw1⟩
  .obtain⟨j,rfl⟩:=Int.eq_ofNat_of_zero_le (show 0<=k by omega);have jR:j<R:=by omega
   have C2:∃p:Nat,Hid (P1=(p:Int)/\P2=0)/\Hid (Qz w 173 #[.agg #[.int .i64 (n:Nat),.int .i64 (mm:Nat),.int .i64 (kn:Nat),.int .i64 (vn:Nat),.int .i64 LM,.slice ao xs.length cap,.int .i64 (hh:Nat),.slice qo ys.length dap],.bool bit,.int .i64 (j:Nat)] (.int .i64 (p:Nat))):=by
    have key:∀p,dc (n:Int) (rowOf n (isIn l)) bit (j:Int)=some p->P1=(p:Int)/\P2=0:=fun p hp=>by
     rw[hP1.out,hP2.out];unfold gsX gsE;rw[hp];exact⟨rfl,rfl⟩
    cases bit with
    | true=>
     have hR':R=mm:=hR.out;obtain⟨b1,b2⟩:=Io hr j (by omega);have b3:=hr.1 j (by omega)
     refine⟨gt l j,key _ (nY _ _ _ _ _ (by rw[Int.toNat_natCast];exact b3) ?_),fun w0 hb=>Gw n mm kn vn hh LM ao xs cap qo ys dap l w0 F (a1.keep hb) a2 (a4.keep hb) a5 hl hg hr j (by omega)⟩
     unfold here cB;rw[b1,if_pos rfl,b2];simp
    | false=>
     have hR':R=n-mm:=hR.out;obtain⟨c,hc,b1,b2,b3⟩:=Im hr j (by rw[hl];omega)
     refine⟨j+c,key _ (nY _ _ _ _ _ (by rw[Int.toNat_natCast];exact b1) ?_),fun w0 hb=>Gx n mm kn vn hh LM ao xs cap qo ys dap l w0 F (a1.keep hb) a2 (a4.keep hb) a5 hl hg hr j (by omega) c hc⟩
     unfold here cB;rw[b2,if_neg (by simp),b3];simp
   obtain⟨p,E,C2⟩:=C2;have i1:¬(j:Int)<0:=by omega
   have i2:¬(R:Int)<=(j:Int):=by omega
   clear hP1 hP2 hck hl hg hr F a1 a4 a2 a5 i0 IFF all hR jR;go_enter func125,ntmps125;go_wp2_with fail;rw[<-hW];refine mr (CC.out _ bW) fun w1 hb=>?_;have bw1:=bg bW hb
   replace B1:=B1.kept hb;clear hb CC hW bW;have q0:=B1.cell 0 rfl;have q1:=B1.cell 1 rfl;have q2:=B1.cell 2 rfl;have q3:=B1.cell 3 rfl;have q4:=B1.cell 4 rfl;have q5:=B1.cell 5 rfl;have q6:=B1.cell 6 rfl
   have q7:=B1.cell 7 rfl;go_wp2_with fail;refine mr (C3.out _) fun w3 h3=>?_;rw[h3];clear h3 w3;go_wp2_with fail;refine mr (C2.out _ bw1) fun w2 hb=>?_;have bw2:=bg bw1 hb
   clear hb;go_wp2;go_ret2;rw[E.out.1,E.out.2];exact⟨rfl,bw2⟩
theorem pa:(prog.info? 61).map (·.size)=some 8:=by kernel_rfl
theorem GK(N:Int)(ao:Option Addr)(xs:List Nat)(cap:Nat)(w:World)(hx:Wd w ao xs)(hk:az N xs=false):
  Qq 53 #[.agg #[.int .i64 N,.slice ao xs.length cap]] w (.tuple #[.agg #[.int .i64 0,.int .i64 0,.int .i64 0,.int .i64 0,.int .i64 0,.slice none 0 0,.int .i64 0,.slice none 0 0],.int .i64 2]):=by
 have CC:Hid (Qz w 83 #[.agg #[.int .i64 N,.slice ao xs.length cap]] (.bool false)):=fun w0 hb=>by
  have:=cg N ao xs cap w0 (hx.keep hb);rw[hk]at this;exact this
 obtain⟨W1,hW1⟩:∃W1,W1=(w.alloc (.cells #[.int .i64 N,.slice ao xs.length cap] 53)).alloc (.cells #[.int .i64 0,.int .i64 0,.int .i64 0,.int .i64 0,.int .i64 0,.slice none 0 0,.int .i64 0,.slice none 0 0] 61):=⟨_,rfl⟩
 have b1:Below w.heap.size w W1:=by rw[hW1];exact((below_alloc w _).alloc (by simp only[World.size_alloc];omega) _)
 have c1:aa W1 (w.heap.size+1) [.int .i64 0,.int .i64 0,.int .i64 0,.int .i64 0,.int .i64 0,.slice none 0 0,.int .i64 0,.slice none 0 0] 61:=by rw[hW1];exact aa.new2 w _ _ _
 go_enter func53,ntmps53;go_wp2_with fail;rw[<-hW1];clear hW1 hx;refine mr (CC.out _ b1) fun wf hb=>?_;replace b1:=bg b1 hb;replace c1:=c1.kept hb;clear hb CC
 go_wp2_with (refine aJ (w.heap.size+1) [.int .i64 0,.int .i64 0,.int .i64 0,.int .i64 0,.int .i64 0,.slice none 0 0,.int .i64 0,.slice none 0 0] [.int .i64 0,.int .i64 0,.int .i64 0,.int .i64 0,.int .i64 0,.slice none 0 0,.int .i64 0,.slice none 0 0] rfl rfl c1 rfl pa (by simp[Value.oneCell']) ?_)
 intro w3 B3 O3;have HZ:=aZ (And.intro B3 (b1.trans (O3.below (Nat.le_succ _))));clear B3 O3 b1 c1;go_wp2
 (try simp only[Exit.inBlock,Exit.then]);exact bodyPost_ret (bj rfl (w.heap.size+1) _ rfl HZ.out.1 underlying61 pa) rfl ⟨rfl,HZ.out.2⟩
theorem GJ(n:Nat)(ao:Option Addr)(xs:List Nat)(cap:Nat)(w:World)(m:Nat)(k V LM H:Int)(LX LY:List Nat)(xn yn:Nat)(hxn:xn=LX.length)(hyn:yn=LY.length)
  (CC:Hid (Qz w 83 #[.agg #[.int .i64 (n:Nat),.slice ao xs.length cap]] (.bool true)))
  (CO:Hid (Qz w 92 #[.agg #[.int .i64 (n:Nat),.slice ao xs.length cap],.int .i64 (n:Nat)] (.int .i64 (m:Nat))))
  (CL:Hid (∀w0,Below w.heap.size w w0->Calls prog 93 #[.agg #[.int .i64 (n:Nat),.slice ao xs.length cap],.int .i64 (m:Nat)] w0 fun e w'=>∃bo bc,e=.returned (.tuple #[.agg #[.int .i64 k,.int .i64 V,.int .i64 LM,.slice bo xn bc],.int .i64 0])/\Wd w' bo LX/\xn<=bc/\Below w0.heap.size w0 w'))
  (CH:Hid (∀w0,Below w.heap.size w w0->Calls prog 94 #[.agg #[.int .i64 (n:Nat),.slice ao xs.length cap],.int .i64 (m:Nat)] w0 fun e w'=>∃qo qc,e=.returned (.tuple #[.agg #[.int .i64 H,.slice qo yn qc],.int .i64 0])/\Wd w' qo LY/\yn<=qc/\Below w0.heap.size w0 w')):
  Calls prog 53 #[.agg #[.int .i64 (n:Nat),.slice ao xs.length cap]] w fun e w'=>∃bo bc qo qc,e=.returned (.tuple #[.agg #[.int .i64 (n:Nat),.int .i64 (m:Nat),.int .i64 k,.int .i64 V,.int .i64 LM,.slice bo xn bc,.int .i64 H,.slice qo yn qc],.int .i64 0])/\Wd w' bo LX/\xn<=bc/\Wd w' qo LY/\yn<=qc/\Below w.heap.size w w':=by
 have HX:=aZ hxn;have HY:=aZ hyn;clear hxn hyn
 obtain⟨W1,hW1⟩:∃W1,W1=(w.alloc (.cells #[.int .i64 (n:Nat),.slice ao xs.length cap] 53)).alloc (.cells #[.int .i64 0,.int .i64 0,.int .i64 0,.int .i64 0,.int .i64 0,.slice none 0 0,.int .i64 0,.slice none 0 0] 61):=⟨_,rfl⟩
 have b1:Below w.heap.size w W1:=by rw[hW1];exact((below_alloc w _).alloc (by simp only[World.size_alloc];omega) _)
 have c0:aa W1 w.heap.size [.int .i64 (n:Nat),.slice ao xs.length cap] 53:=by rw[hW1];exact(aa.new w _ _).alloc _
 have c1:aa W1 (w.heap.size+1) [.int .i64 0,.int .i64 0,.int .i64 0,.int .i64 0,.int .i64 0,.slice none 0 0,.int .i64 0,.slice none 0 0] 61:=by rw[hW1];exact aa.new2 w _ _ _
 go_enter func53,ntmps53;go_wp2_with fail;rw[<-hW1];clear hW1;refine mr (CC.out _ b1) fun wf hb=>?_;replace b1:=bg b1 hb;replace c0:=c0.kept hb;replace c1:=c1.kept hb;clear hb CC
 have q0:=c0.cell 0 rfl;have q1:=c0.cell 1 rfl;go_wp2_with fail;refine mr (CO.out _ b1) fun w2 hb=>?_;replace b1:=bg b1 hb;replace c0:=c0.kept hb;replace c1:=c1.kept hb;clear hb CO q0 q1
 have q0:=c0.cell 0 rfl;have q1:=c0.cell 1 rfl;go_wp2_with fail;refine(CL.out _ b1).mono ?_;rintro e w3 ⟨bo,bc,rfl,hX,hxc,hb⟩;replace b1:=bg b1 hb;replace c0:=c0.kept hb;replace c1:=c1.kept hb
 clear hb CL q0 q1;have bA:=below_alloc w3 (.cells #[.int .i64 k,.int .i64 V,.int .i64 LM,.slice bo xn bc] 57);have d5:=aa.new w3 [.int .i64 k,.int .i64 V,.int .i64 LM,.slice bo xn bc] 57;have d0:=c0.kept bA
 have d1:=c1.kept bA;have hX2:=hX.keep bA;have b2:=bg b1 bA;have q0:=d0.cell 0 rfl;have q1:=d0.cell 1 rfl;go_wp2_with fail;refine(CH.out _ b2).mono ?_;rintro e w4 ⟨qo,qc,rfl,hY,hyc,hb⟩
 replace b2:=bg b2 hb;replace d0:=d0.kept hb;replace d1:=d1.kept hb;replace d5:=d5.kept hb;replace hX2:=hX2.keep hb;clear hb CH q0 q1 bA b1 c0 c1 hX
 have bA:=below_alloc w4 (.cells #[.int .i64 H,.slice qo yn qc] 53);have e7:=aa.new w4 [.int .i64 H,.slice qo yn qc] 53;have e0:=d0.kept bA;have e1:=d1.kept bA;have e5:=d5.kept bA;have hX3:=hX2.keep bA
 have hY3:=hY.keep bA;have b3:=bg b2 bA;have q0:=e0.cell 0 rfl;clear bA d0 d1 d5 hX2 hY b2;have ne1:=hX3.apart e1 (by intro v hv n;simp at hv;rcases hv with rfl | rfl | rfl | rfl<;>simp)
 have ne2:=hY3.apart e1 (by intro v hv n;simp at hv;rcases hv with rfl | rfl | rfl | rfl<;>simp);generalize w3.heap.size=g5 at *
 go_wp2_with (first | refine fE g5 _ rfl e5 underlying57 m_ ?_ | refine fE w4.heap.size _ rfl e7 underlying53 jt ?_ | refine aJ (w.heap.size+1) [.int .i64 0,.int .i64 0,.int .i64 0,.int .i64 0,.int .i64 0,.slice none 0 0,.int .i64 0,.slice none 0 0] [.int .i64 (n:Nat),.int .i64 (m:Nat),.int .i64 k,.int .i64 V,.int .i64 LM,.slice bo xn bc,.int .i64 H,.slice qo yn qc] rfl rfl e1 rfl pa (by simp[Value.oneCell']) ?_)
 intro w5 B3 O3;have HZ:=aZ (And.intro B3 (And.intro (O3.wd hX3 ne1) (And.intro (O3.wd hY3 ne2) (b3.trans (O3.below (Nat.le_succ _))))));clear B3 O3 hX3 hY3 b3 e0 e1 e5 e7 ne1 ne2;go_wp2
 (try simp only[Exit.inBlock,Exit.then]);exact bodyPost_ret (bj rfl (w.heap.size+1) _ rfl HZ.out.1 underlying61 pa) rfl ⟨bo,bc,qo,qc,rfl,HZ.out.2.1,hxc,HZ.out.2.2.1,hyc,HZ.out.2.2.2⟩
theorem Jb(N:Int)(ao:Option Addr)(xs:List Nat)(cap:Nat)(w:World)(hN:aD N)(hx:Wd w ao xs)(hf:aA xs)(hcap:xs.length<=cap)(hl:N<=3000/\xs.length<=1048576):
  Calls prog 53 #[.agg #[.int .i64 N,.slice ao xs.length cap]] w fun e w'=>∃cs:List Value,e=.returned (.tuple #[.agg cs.toArray,.int .i64 (kE9 N xs)])/\bJ w' cs (kB9 N xs)/\Below w.heap.size w w':=by
 have z:aD 0:=⟨by decide,by decide⟩;cases hk:az N xs with
 | false=>
  refine mr (GK N ao xs cap w hx hk) fun w' hb=>?_;have e1:kE9 N xs=2:=by unfold kE9;rw[hk];rfl
  have e2:kB9 N xs=⟨0,0,0,0,0,[],0,[]⟩:=by unfold kB9;rw[hk];rfl
  rw[e1,e2];have f0:aA []:=fun i=>by unfold gt;simp
  exact⟨_,rfl,⟨⟨none,0,none,0,rfl,⟨z,z,z,z,z,z⟩,cE _ _,f0,Nat.le_refl _,cE _ _,f0,Nat.le_refl _⟩,by decide,by simp,by simp⟩,hb⟩
 | true=>
  obtain⟨u1,u2,u3,u4⟩:=bp _ _ hk;obtain⟨n,rfl⟩:=Int.eq_ofNat_of_zero_le u1;have hn:n<=3000:=by omega
  obtain⟨L,hL⟩:∃L,L=plc (bitAt xs) n:=⟨_,rfl⟩;obtain⟨v,hv⟩:∃v,v=wdF n L.length:=⟨_,rfl⟩;have RS:br L n:=by rw[hL];exact iK _ _
  have mn:=RS.len;have v20:v<=20:=by rw[hv];exact gD n _ (by omega)
  have e1:kE9 (n:Int) xs=0:=by unfold kE9;rw[hk];rfl
  have e2:kB9 (n:Int) xs=⟨n,L.length,(loP L v).length,(max v 1:Nat),((loP L v).length:Int)*(max v 1:Nat),mkS (loP L v) (max v 1) (loP L v).length,hiN L n v,rowOf (hiN L n v) (isIn (hiP L v))⟩:=by
   unfold kB9;rw[if_pos hk,Int.toNat_natCast,<-hL];unfold aG;rw[<-hv]
  have CC:Hid (Qz w 83 #[.agg #[.int .i64 (n:Nat),.slice ao xs.length cap]] (.bool true)):=fun w0 hb=>by
   have:=cg n ao xs cap w0 (hx.keep hb);rw[hk]at this;exact this
  have CO:Hid (Qz w 92 #[.agg #[.int .i64 (n:Nat),.slice ao xs.length cap],.int .i64 (n:Nat)] (.int .i64 (L.length:Nat))):=fun w0 hb=>by
   have:=xD n ao xs cap n w0 (hx.keep hb) hf hcap
   have on:onesI (n:Int) xs (n:Int)=(L.length:Int):=by
    rw[hL,uq];unfold onesI;rw[hk,show min (n:Int) (n:Int)=(n:Int)by omega,Int.toNat_natCast];rfl
   rw[on]at this;exact this
  have CL:Hid (∀w0,Below w.heap.size w w0->Calls prog 93 #[.agg #[.int .i64 (n:Nat),.slice ao xs.length cap],.int .i64 (L.length:Nat)] w0 fun e w'=>∃bo bc,e=.returned (.tuple #[.agg #[.int .i64 ((loP L v).length:Nat),.int .i64 (max v 1:Nat),.int .i64 (((loP L v).length:Int)*(max v 1:Nat)),.slice bo (mkS (loP L v) (max v 1) (loP L v).length).length bc],.int .i64 0])/\Wd w' bo (mkS (loP L v) (max v 1) (loP L v).length)/\(mkS (loP L v) (max v 1) (loP L v).length).length<=bc/\Below w0.heap.size w0 w'):=fun w0 hb=>by
   by_cases c:v=0
   .refine(GB n ao xs cap w0 L.length hn mn (by rw[<-hv];exact c)).mono ?_;rintro e w' ⟨bo,bc,rfl,hb2⟩;subst c;have e3:loP L 0=[]:=rfl;have e4:mkS [] 1 0=[]:=by unfold mkS;rfl
    rw[e3];exact⟨bo,bc,rfl,cE _ _,Nat.zero_le _,hb2⟩
   .refine(Gz n ao xs cap w0 (hx.keep hb) hf hk hn L hL L.length v rfl hv (by omega)).mono ?_;rintro e w' ⟨g,k,rfl,hk2,hO,hb2⟩;have e3:(loP L v).length=L.length:=jm L v (by omega)
    have e4:max v 1=v:=by omega
    rw[e3,e4];exact⟨some ⟨g,0,none⟩,k,by rw[hk2],hO.wd,by rw[hk2];exact Nat.le_refl _,hb2⟩
  have CH:Hid (∀w0,Below w.heap.size w w0->Calls prog 94 #[.agg #[.int .i64 (n:Nat),.slice ao xs.length cap],.int .i64 (L.length:Nat)] w0 fun e w'=>∃qo qc,e=.returned (.tuple #[.agg #[.int .i64 (hiN L n v:Nat),.slice qo (rowOf (hiN L n v) (isIn (hiP L v))).length qc],.int .i64 0])/\Wd w' qo (rowOf (hiN L n v) (isIn (hiP L v)))/\(rowOf (hiN L n v) (isIn (hiP L v))).length<=qc/\Below w0.heap.size w0 w'):=fun w0 hb=>by
   refine(GE n ao xs cap w0 (hx.keep hb) hf hk hn L hL L.length v (hiN L n v) ((hiN L n v+63)/64) rfl hv rfl rfl).mono ?_;rintro e w' ⟨g,rfl,hO,_,hb2⟩
   exact⟨some ⟨g,0,none⟩,_,by rw[cM],hO.wd,by rw[cM];exact Nat.le_refl _,hb2⟩
  refine(GJ n ao xs cap w L.length _ _ _ _ _ _ _ _ rfl rfl CC CO CL CH).mono ?_;rintro e w' ⟨bo,bc,qo,qc,rfl,p1,p2,p3,p4,hb⟩;rw[e1,e2];have l1:=mR L v;have hE:n/2^v<=n:=Nat.div_le_self _ _
  have l2:hiN L n v<=6001:=by unfold hiN;omega
  have l3:(loP L v).length*max v 1<=3000*20:=Nat.mul_le_mul (by omega) (by omega);have l4:(mkS (loP L v) (max v 1) (loP L v).length).length<=1048576:=by rw[jl];omega
  have l5:(rowOf (hiN L n v) (isIn (hiP L v))).length<=1048576:=by rw[cM];omega
  have i1:aD (n:Int):=⟨by omega,by omega⟩;have i2:aD (L.length:Int):=⟨by omega,by omega⟩;have i3:aD ((loP L v).length:Int):=⟨by omega,by omega⟩;have i5:aD ((max v 1:Nat):Int):=⟨by omega,by omega⟩
  have i6:aD (hiN L n v:Int):=⟨by omega,by omega⟩
  have i4:aD (((loP L v).length:Int)*(max v 1:Nat)):=by
   rw[<-Int.natCast_mul];exact⟨by omega,by omega⟩
  exact⟨_,rfl,⟨⟨bo,bc,qo,qc,rfl,⟨i1,i2,i3,i5,i4,i6⟩,p1,nh _ _ _,p2,p3,cY _ _,p4⟩,hl.1,l4,l5⟩,hb⟩
end Go.Proofs.YtleegaihbgbcjabGreatDoor
namespace Go.Proofs.YtleegaihbgbcjabGreatDoor
open Go.ChangeShapes Go.WideShapes Go.ChangeAt Go.RowKit Go.Joins Go.Deep Num Bit
theorem pN{H:Type}{enc:TypeId×Value->H}{P:Program}{w:World}{base:Nat}{spare:Nat->Bool}{held:Bool}{t:TypeId}{f0 f1 f2 f3:Field}{fuel:Nat}{cs:List Value}{x:DataW H×List MemPlace}(ht:P.underlying t=some (.struct #[f0,f1,f2,f3]))(h:DataW.trod enc P w base spare held fuel t cs=some x):
  ∃y0 y1 y2 y3 n,DataW.trod enc P w base spare held n f0.type ((cs.drop f0.offset).take (P.cellsOf f0.type))=some y0/\
   DataW.trod enc P w base spare held n f1.type ((cs.drop f1.offset).take (P.cellsOf f1.type))=some y1/\DataW.trod enc P w base spare held n f2.type ((cs.drop f2.offset).take (P.cellsOf f2.type))=some y2/\
   DataW.trod enc P w base spare held n f3.type ((cs.drop f3.offset).take (P.cellsOf f3.type))=some y3:=by
 obtain⟨xs,n,_,rfl,hl,hlen,hf⟩:=DataW.trod_struct ht h;match xs,hlen with
 | [y0,y1,y2,y3],_=>exact⟨y0,y1,y2,y3,n,by simpa using hf 0 f0 rfl,by simpa using hf 1 f1 rfl,by simpa using hf 2 f2 rfl,by simpa using hf 3 f3 rfl⟩
theorem vH(N:Int)(xs:List Nat)(hf:aA xs)(hk:az N xs=true)(hN:N<=3000):kOk9 (kB9 N xs)=true/\kBN9 (kB9 N xs)=N/\kBX9 (kB9 N xs)=xs:=by
 obtain⟨h0,h1,_,_⟩:=bp N xs hk;obtain⟨n,rfl⟩:=Int.eq_ofNat_of_zero_le h0;have hn:n<=3000:=by omega
 obtain⟨L,hL⟩:∃L,L=plc (bitAt xs) n:=⟨_,rfl⟩;have RS:br L n:=by rw[hL];exact iK _ _
 have mn:=RS.len;have v20:=gD n L.length (by omega)
 have e:kB9 (n:Int) xs=aG n L:=by
  unfold kB9;rw[if_pos hk,Int.toNat_natCast,<-hL]
 have hE:n/2^wdF n L.length<=n:=Nat.div_le_self _ _
 have hrow:dC (aG n L)=some L:=by
  refine Hw RS (by omega) (by unfold hiN;omega) ?_;have l1:=mR L (wdF n L.length);have l3:(loP L (wdF n L.length)).length*max (wdF n L.length) 1<=3000*20:=Nat.mul_le_mul (by omega) (by omega);omega
 have ok:kOk9 (aG n L)=true:=by
  unfold kOk9;rw[hrow];exact(rA _ _).2 rfl
 rw[e];refine⟨ok,?_,?_⟩
 .unfold kBN9;rw[if_pos ok];rfl
 .unfold kBX9 kRow;rw[if_pos ok,hrow];show rowOf n (isIn L)=xs;have hy:=kK (n:Int) xs hf hk;rw[Int.toNat_natCast]at hy
  rw[da n _ (bitAt xs) fun j hj=>by rw[hL,vP,decide_eq_true hj,Bool.true_and]];exact hy.symm
theorem FK(N:Int)(xs:List Nat)(hk:az N xs=true):kE9 N xs=0:=by unfold kE9;rw[hk];rfl
theorem FH(n:Nat)(xs:List Nat)(hf:aA xs)(hk:az (n:Int) xs=true)(hn:n<=3000):64<kZ9 (kB9 n xs)/\kZ9 (kB9 n xs)<=2*(n:Int)+65:=by
 have ok:=(vH n xs hf hk (by omega)).1;obtain⟨L,hL⟩:∃L,L=plc (bitAt xs) n:=⟨_,rfl⟩;have RS:br L n:=by rw[hL];exact iK _ _
 have mn:=RS.len
 have e:kB9 (n:Int) xs=aG n L:=by
  unfold kB9;rw[if_pos hk,Int.toNat_natCast,<-hL]
 rw[e]at ok⊢;unfold kZ9;rw[if_pos ok]
 show 64<((loP L (wdF n L.length)).length:Int)*(max (wdF n L.length) 1:Nat)+(hiN L n (wdF n L.length):Int)+64/\((loP L (wdF n L.length)).length:Int)*(max (wdF n L.length) 1:Nat)+(hiN L n (wdF n L.length):Int)+64<=2*(n:Int)+65
 rw[<-Int.natCast_mul];have hE:n/2^wdF n L.length<=n:=Nat.div_le_self _ _
 have key:(loP L (wdF n L.length)).length*max (wdF n L.length) 1+L.length<=n:=by
  by_cases c:wdF n L.length=0
  .rw[c,show loP L 0=[]from rfl];simpa using mn
  .rw[jm L _ (by omega),show max (wdF n L.length) 1=wdF n L.length by omega];have m0:L.length≠0:=fun e=>c (by unfold wdF;rw[if_pos e]);have d1:1<=n/L.length:=Nat.div_pos mn (by omega)
   obtain⟨p,hp,p1,p2,p3,_⟩:=qK ((n/L.length:Nat):Int) (by omega) (by have:=Nat.div_le_self n L.length;omega) (by omega)
   have hw:wdF n L.length=p-1:=by
    unfold wdF;rw[if_neg m0];unfold bI at hp;rw[Int.toNat_natCast]at hp;omega
   have h2:2^(p-1)<=n/L.length:=by
    clear hp hw;generalize n/L.length=dd at *;have e1:(dd:Int)/2^(p-1)=((dd/2^(p-1):Nat):Int):=by rw[Int.natCast_ediv,Int.natCast_pow];rfl
    rw[e1]at p3;refine Nat.le_of_not_lt fun h=>?_;rw[Nat.div_eq_of_lt h]at p3;cases p3
   have h3:p-1+1<=2^(p-1):=Nat.lt_two_pow_self;have h4:L.length*(p-1+1)<=L.length*(n/L.length):=Nat.mul_le_mul_left _ (by omega);have h5:L.length*(n/L.length)<=n:=Nat.mul_div_le n L.length
   rw[hw];rw[Nat.mul_add,Nat.mul_one]at h4;omega
 unfold hiN;generalize (loP L (wdF n L.length)).length*max (wdF n L.length) 1=q at *;generalize n/2^wdF n L.length=r at *;omega
open Go.ChangeShapes Go.WideShapes Go.ChangeAt Go.RowKit Go.Joins Go.Deep Num Bit Bn
theorem oP(N:Int)(xs:List Nat)(h:kE7 N xs=0):kB 1 N xs=⟨1,kB7 N xs,n8,n9⟩:=by
 have e:kE 1 N xs=0:=h;unfold kB;rw[if_pos e];rfl
theorem oO(N:Int)(xs:List Nat)(h:kE8 N xs=0):kB 2 N xs=⟨2,n7,kB8 N xs,n9⟩:=by
 have e:kE 2 N xs=0:=h;unfold kB;rw[if_pos e];rfl
theorem mV(N:Int)(xs:List Nat)(h:kE9 N xs=0):kB 3 N xs=⟨3,n7,n8,kB9 N xs⟩:=by
 have e:kE 3 N xs=0:=h;unfold kB;rw[if_pos e];rfl
theorem jO(k N:Int)(xs:List Nat)(h:kE k N xs≠0):kB k N xs=⟨0,n7,n8,n9⟩:=by
 unfold kB;rw[if_neg h]
theorem DE(p:cD):kOn ⟨1,p,n8,n9⟩=1:=by
 have:cO ⟨1,p,n8,n9⟩=true:=rfl;unfold kOn;rw[if_pos this]
theorem DC(r:aP):kOn ⟨2,n7,r,n9⟩=2:=by
 have:cO ⟨2,n7,r,n9⟩=true:=rfl;unfold kOn;rw[if_pos this]
theorem uz(f:bF):kOn ⟨3,n7,n8,f⟩=3:=by
 have:cO ⟨3,n7,n8,f⟩=true:=rfl;unfold kOn;rw[if_pos this]
theorem FU(k N:Int)(xs:List Nat)(h1:1<=k)(h3:k<=3)(hf:aA xs)(hk:az N xs=true)(hN:N<=3000):aX (kB k N xs)=true/\kBN (kB k N xs)=N/\aY (kB k N xs)=xs:=by
 have e0:=oN k N xs h1 h3 hk;have h:k=1\/k=2\/k=3:=by omega
 rcases h with rfl | rfl | rfl
 .rw[oP N xs e0];obtain⟨e1,e2,e3,_⟩:=ge (DE (kB7 N xs));obtain⟨g1,g2,g3⟩:=FT N xs hk;exact⟨e1.trans g1,e2.trans g2,e3.trans g3⟩
 .rw[oO N xs e0];obtain⟨e1,e2,e3,_⟩:=gc (DC (kB8 N xs));obtain⟨g1,g2,g3⟩:=vJ N xs hf hk;exact⟨e1.trans g1,e2.trans g2,e3.trans g3⟩
 .rw[mV N xs e0];obtain⟨e1,e2,e3,_⟩:=fV (uz (kB9 N xs));obtain⟨g1,g2,g3⟩:=vH N xs hf hk hN;exact⟨e1.trans g1,e2.trans g2,e3.trans g3⟩
theorem IU:prog.cellsOf 61=8:=by kernel_rfl
theorem JY{cs:Array Value}(h:cs.size=22):∃c0 c1 c2 c3 c4 c5 c6 c7 c8 c9 c10 c11 c12 c13 c14 c15 c16 c17 c18 c19 c20 c21,cs=#[c0,c1,c2,c3,c4,c5,c6,c7,c8,c9,c10,c11,c12,c13,c14,c15,c16,c17,c18,c19,c20,c21]:=by
 obtain⟨l⟩:=cs;match l,h with
 | [c0,c1,c2,c3,c4,c5,c6,c7,c8,c9,c10,c11,c12,c13,c14,c15,c16,c17,c18,c19,c20,c21],_=>exact⟨c0,c1,c2,c3,c4,c5,c6,c7,c8,c9,c10,c11,c12,c13,c14,c15,c16,c17,c18,c19,c20,c21,rfl⟩
theorem Du{H:Type}{enc:TypeId×Value->H}{W:World}{n:Nat}{c0 c1 c2 c3:Value}{y:DataW H×List MemPlace}(hf:DataW.trod enc prog W 0 (fun _=>true) true n 55 [c0,c1,c2,c3]=some y):∃a:cD,fH W [c0,c1,c2,c3] a:=by
 obtain⟨y0,y1,y2,n,hx,_,h0,h1,h2⟩:=trod_struct3 underlying55 hf;have g0:DataW.trod enc prog W 0 (fun _=>true) true n 53 [c0,c1]=some y0:=by simpa [Tryz.cells53]using h0
 have g1:DataW.trod enc prog W 0 (fun _=>true) true n 25 [c2]=some y1:=by simpa [Tryz.cells25,Tryz.cells53]using h1
 have g2:DataW.trod enc prog W 0 (fun _=>true) true n 25 [c3]=some y2:=by simpa [Tryz.cells25,Tryz.cells53]using h2
 obtain⟨N,ao,xs,cap,rfl,rfl,hN,a1,a2,a3⟩:=og g0;obtain⟨so,su,sc,rfl,u1,u2,u3⟩:=mJ g1;obtain⟨tO,sb,tc,rfl,v1,v2,v3⟩:=mJ g2
 exact⟨⟨N,xs,su,sb⟩,ao,cap,so,sc,tO,tc,rfl,⟨hN,a1,a2,a3,u1,u2,u3,v1,v2,v3⟩⟩
theorem Dt{H:Type}{enc:TypeId×Value->H}{W:World}{n:Nat}{c0 c1 c2 c3 c4 c5 c6 c7 c8:Value}{y:DataW H×List MemPlace}(hf:DataW.trod enc prog W 0 (fun _=>true) true n 59 [c0,c1,c2,c3,c4,c5,c6,c7,c8]=some y):∃a:aP,fp W [c0,c1,c2,c3,c4,c5,c6,c7,c8] a:=by
 obtain⟨y0,y1,y2,y3,y4,n,h0,h1,h2,h3,h4⟩:=yP underlying59 hf;have g0:DataW.trod enc prog W 0 (fun _=>true) true n 3 [c0]=some y0:=by simpa [Tryz.cells3]using h0
 have g1:DataW.trod enc prog W 0 (fun _=>true) true n 57 [c1,c2,c3,c4]=some y1:=by simpa [xt]using h1
 have g2:DataW.trod enc prog W 0 (fun _=>true) true n 53 [c5,c6]=some y2:=by simpa [Tryz.cells53]using h2
 have g3:DataW.trod enc prog W 0 (fun _=>true) true n 25 [c7]=some y3:=by simpa [Tryz.cells25]using h3
 have g4:DataW.trod enc prog W 0 (fun _=>true) true n 25 [c8]=some y4:=by simpa [Tryz.cells25]using h4
 obtain⟨N,rfl,hN⟩:=jh g0;obtain⟨k,V,M,ao,xs,cap,rfl,rfl,rfl,rfl,hk,hV,hM,a1,a2,a3⟩:=uy g1;obtain⟨L,qo,ys,dap,rfl,rfl,hL,b1,b2,b3⟩:=og g2
 obtain⟨so,S,sc,rfl,u1,u2,u3⟩:=mJ g3;obtain⟨tO,T,tc,rfl,v1,v2,v3⟩:=mJ g4
 exact⟨⟨N,k,V,M,xs,L,ys,S,T⟩,ao,cap,qo,dap,so,sc,tO,tc,rfl,⟨hN,hk,hV,hM,hL,u2,v2⟩,a1,a2,a3,b1,b2,b3,u1,u3,v1,v3⟩
theorem Dw{H:Type}{enc:TypeId×Value->H}{W:World}{n:Nat}{c0 c1 c2 c3 c4 c5 c6 c7:Value}{y:DataW H×List MemPlace}(hf:DataW.trod enc prog W 0 (fun _=>true) true n 61 [c0,c1,c2,c3,c4,c5,c6,c7]=some y):∃a:bF,fG W [c0,c1,c2,c3,c4,c5,c6,c7] a:=by
 obtain⟨y0,y1,y2,y3,n,h0,h1,h2,h3⟩:=pN underlying61 hf;have g0:DataW.trod enc prog W 0 (fun _=>true) true n 3 [c0]=some y0:=by simpa [Tryz.cells3]using h0
 have g1:DataW.trod enc prog W 0 (fun _=>true) true n 3 [c1]=some y1:=by simpa [Tryz.cells3]using h1
 have g2:DataW.trod enc prog W 0 (fun _=>true) true n 57 [c2,c3,c4,c5]=some y2:=by simpa [xt]using h2
 have g3:DataW.trod enc prog W 0 (fun _=>true) true n 53 [c6,c7]=some y3:=by simpa [Tryz.cells53]using h3
 obtain⟨N,rfl,hN⟩:=jh g0;obtain⟨M,rfl,hM⟩:=jh g1;obtain⟨k,V,LM,ao,xs,cap,rfl,rfl,rfl,rfl,hk,hV,hLM,a1,a2,a3⟩:=uy g2;obtain⟨H',qo,ys,dap,rfl,rfl,hH,b1,b2,b3⟩:=og g3
 exact⟨⟨N,M,k,V,LM,xs,H',ys⟩,ao,cap,qo,dap,rfl,⟨hN,hM,hk,hV,hLM,hH⟩,a1,a2,a3,b1,b2,b3⟩
end Go.Proofs.YtleegaihbgbcjabGreatDoor
namespace Go.Proofs.YtleegaihbgbcjabGreatDoor
open Go.RowKit Num Bit
theorem rD(l:List Bool)(b:Bool)(i:Nat)(h:i<l.length):Sh.ct b l (i+1)=Sh.ct b l i+(bt l i==b).toNat:=by
 unfold Sh.ct;rw[List.take_add_one,List.filter_append,List.length_append,List.getElem?_eq_getElem h];unfold bt;rw[List.getD_eq_getElem?_getD,List.getElem?_eq_getElem h];cases e:(l[i]==b)<;>simp[e]
theorem rH(l:List Bool):∀i,i<=l.length->cntB (aC l) i=Sh.ct true l i
 | 0,_=>by simp[cntB,Sh.ct]
 | i+1,h=>by
  rw[cntB,rH l i (by omega),rD l true i (by omega)];unfold aC;rw[fk,decide_eq_true (show i<l.length by omega),Bool.true_and];cases bt l i<;>rfl
theorem rF(l:List Bool):∀i,i<=l.length->Sh.ct true l i+Sh.ct false l i=i
 | 0,_=>by simp[Sh.ct]
 | i+1,h=>by
  have:=rF l i (by omega);rw[rD l true i (by omega),rD l false i (by omega)];cases bt l i<;>simp<;>omega
theorem rL(l:List Bool)(b:Bool)(i:Nat)(h:i<=l.length):cB (aC l) b i=Sh.ct b l i:=by
 unfold cB;rw[rH l i h];have:=rF l i h;cases b
 .simp;omega
 .simp
theorem FX{k:Int}(hk:1<=k/\k<=3)(l:List Bool)(h:l.length<=3000):aX (kB k (l.length:Int) (aC l))=true/\kBN (kB k (l.length:Int) (aC l))=(l.length:Int)/\aY (kB k (l.length:Int) (aC l))=aC l:=FU k _ _ hk.1 hk.2 (cY _ _) (gB _ _ (by omega)) (by omega)
theorem si(l:List Bool)(i:Nat)(b:Bool)(h:l[i]?=some b):bitAt (aC l) i=b:=by
 unfold aC
 have hi:i<l.length:=by
  by_cases g:i<l.length
  .exact g
  .rw[List.getElem?_eq_none (by omega)]at h;cases h
 rw[fk,decide_eq_true hi,Bool.true_and];unfold bt;rw[List.getD_eq_getElem?_getD,h];rfl
theorem aR{ops:Array Oper}{rest:List Oper}{d:Option Tmp}{ty T:TypeId}{ps:String}{af:Array Edge}{gd:Option (Nat×Bool)}{a:Act}{w:World}{Q:Exit->Act->World->Prop}{x:Operand}
  (g o:Nat) (cs:List Value) {fs:Array Field} (hwn:Region.wanted (⟨d,.load T x,ty,ps,af,gd⟩:Oper) (yielded ops a.tmps)=true) (hx:a.eval x=.pointer (some ⟨g,o,none⟩)) (hc:w.rangeAt g o cs) (hu:prog.underlying T=some (.struct fs)) (hi:(prog.info? T).map (·.size)=some cs.length)
  (h:wpList prog ops Q rest (a.put d (.agg cs.toArray)) w):
  wpList prog ops Q (⟨d,.load T x,ty,ps,af,gd⟩::rest) a w:=
 wpList_step fun K hK=>by
  rw[if_pos hwn];exact wp_load_mid T x rfl g o hx cs _ hc hu rfl hi (hK _ _ h)
theorem aa.part{w:World}{b:Nat}{T:TypeId}(pre cs post:List Value)(h:aa w b (pre++(cs++post)) T):w.rangeAt b pre.length cs:=fun j v hv=>by
 refine h.cell (pre.length+j) ?_;have hj:j<cs.length:=(List.getElem?_eq_some_iff.1 hv).1;rw[List.getElem?_append_right (by omega),List.getElem?_append_left (by omega),show pre.length+j-pre.length=j by omega]
 exact hv
theorem Af(w:World)(N:Int)(ao:Option Addr)(n cap:Nat)(T:TypeId):sw (w.alloc (.cells #[.int .i64 N,.slice ao n cap] T)) w.heap.size [(N,n)]:=by
 have hc:=aa.new w [.int .i64 N,.slice ao n cap] T;refine⟨hc.lt,fun i hi=>?_⟩;have hi:i<1:=hi;obtain rfl:i=0:=by omega
 exact⟨hc.cell 0 rfl,ao,cap,hc.cell 1 rfl⟩
theorem tA(w:World)(N:Int)(ao:Option Addr)(n cap:Nat)(M:Int)(bo:Option Addr)(m dap:Nat)(T:TypeId):sw (w.alloc (.cells #[.int .i64 N,.slice ao n cap,.int .i64 M,.slice bo m dap] T)) w.heap.size [(N,n),(M,m)]:=by
 have hc:=aa.new w [.int .i64 N,.slice ao n cap,.int .i64 M,.slice bo m dap] T;refine⟨hc.lt,fun i hi=>?_⟩;have hi:i<2:=hi;have:i=0\/i=1:=by omega
 rcases this with rfl | rfl
 .exact⟨hc.cell 0 rfl,ao,cap,hc.cell 1 rfl⟩
 .exact⟨hc.cell 2 rfl,bo,dap,hc.cell 3 rfl⟩
theorem DU(cs:List Value)(a:cD)(w:World)(h:fH w cs a):
  Qq 96 #[.agg cs.toArray] w (.bool (z7 a)):=by
 obtain⟨ao,cap,so,sc,tO,tc,rfl, -⟩:=h;obtain⟨N,xs,S,T⟩:=a;dsimp only;obtain⟨Z,hZ⟩:∃Z,Hid (Z=z7 ⟨N,xs,S,T⟩):=⟨_,rfl⟩;rw[<-hZ.out]
 obtain⟨W,hW⟩:∃W,W=(w.alloc (.cells #[.int .i64 N,.slice ao xs.length cap,.slice so S.length sc,.slice tO T.length tc] 55)).alloc (.cells #[.int .i64 N,.slice ao xs.length cap] 53):=⟨_,rfl⟩;have bW:=cZ hW
 have R:Hid (∀w0:World,w0=W->Qq 151 #[.slice (some ⟨w.heap.size+1,0,none⟩) 1 1] w0 (.bool (norw [(N,xs.length)]))):=fun w0 g=>by
  subst g;refine qw _ 1 [(N,xs.length)] w0 ?_ (by simp);have hx:=Af (w.alloc (.cells #[.int .i64 N,.slice ao xs.length cap,.slice so S.length sc,.slice tO T.length tc] 55)) N ao xs.length cap 53
  rw[show(w.alloc (.cells #[.int .i64 N,.slice ao xs.length cap,.slice so S.length sc,.slice tO T.length tc] 55)).heap.size=w.heap.size+1 by simp]at hx;rw[hW];exact hx
 subst hW;cases hn:norw [(N,xs.length)]with
 | false=>
  have E:Hid (Z=false):=by
   show Z=_;rw[hZ.out];unfold z7;simp[hn]
  clear hZ;rw[hn]at R;go_enter func96,ntmps96;go_wp2_with fail;refine mr (R.out _ (by rfl)) fun w1 hb=>?_
  have g0:=((aa.new w [.int .i64 N,.slice ao xs.length cap,.slice so S.length sc,.slice tO T.length tc] 55).kept (below_alloc _ _)).kept hb;have g1:=g0.cell 2 rfl;have g2:=g0.cell 3 rfl;clear g0
  replace hb:=bg bW hb;go_wp2;go_ret;rw[E.out];exact⟨rfl,hb⟩
 | true=>
  by_cases qS:(S.length:Int)=0;rotate_left
  .have dS:((S.length:Int)==0)=false:=beq_eq_false_iff_ne.2 qS
   have E:Hid (Z=false):=by
    show Z=_;rw[hZ.out];unfold z7;simp[hn,show ¬S=[]from fun e=>qS (by rw[e];rfl)]
   clear hZ;rw[hn]at R;go_enter func96,ntmps96;go_wp2_with fail;refine mr (R.out _ (by rfl)) fun w1 hb=>?_
   have g0:=((aa.new w [.int .i64 N,.slice ao xs.length cap,.slice so S.length sc,.slice tO T.length tc] 55).kept (below_alloc _ _)).kept hb;have g1:=g0.cell 2 rfl;have g2:=g0.cell 3 rfl;clear g0
   replace hb:=bg bW hb;go_wp2;go_ret;rw[E.out];exact⟨rfl,hb⟩
  have dS:((S.length:Int)==0)=true:=by simp only[qS];rfl
  by_cases qT:(T.length:Int)=0;rotate_left
  .have dT:((T.length:Int)==0)=false:=beq_eq_false_iff_ne.2 qT
   have E:Hid (Z=false):=by
    show Z=_;rw[hZ.out];unfold z7;simp[hn,show S=[]from List.eq_nil_of_length_eq_zero (by omega),show ¬T=[]from fun e=>qT (by rw[e];rfl)]
   clear hZ;rw[hn]at R;go_enter func96,ntmps96;go_wp2_with fail;refine mr (R.out _ (by rfl)) fun w1 hb=>?_
   have g0:=((aa.new w [.int .i64 N,.slice ao xs.length cap,.slice so S.length sc,.slice tO T.length tc] 55).kept (below_alloc _ _)).kept hb;have g1:=g0.cell 2 rfl;have g2:=g0.cell 3 rfl;clear g0
   replace hb:=bg bW hb;go_wp2;go_ret;rw[E.out];exact⟨rfl,hb⟩
  have dT:((T.length:Int)==0)=true:=by simp only[qT];rfl
  have E:Hid (Z=true):=by
   show Z=_;rw[hZ.out];unfold z7;simp[hn,show S=[]from List.eq_nil_of_length_eq_zero (by omega),show T=[]from List.eq_nil_of_length_eq_zero (by omega)]
  clear hZ;rw[hn]at R;go_enter func96,ntmps96;go_wp2_with fail;refine mr (R.out _ (by rfl)) fun w1 hb=>?_
  have g0:=((aa.new w [.int .i64 N,.slice ao xs.length cap,.slice so S.length sc,.slice tO T.length tc] 55).kept (below_alloc _ _)).kept hb;have g1:=g0.cell 2 rfl;have g2:=g0.cell 3 rfl;clear g0
  replace hb:=bg bW hb;go_wp2;go_ret;rw[E.out];exact⟨rfl,hb⟩
theorem DT(cs:List Value)(a:aP)(w:World)(h:fp w cs a):
  Qq 97 #[.agg cs.toArray] w (.bool (z8 a)):=by
 obtain⟨ao,cap,qo,dap,so,sc,tO,tc,rfl, -⟩:=h;obtain⟨N,k,V,M,xs,L,ys,S,T⟩:=a;dsimp only;obtain⟨Z,hZ⟩:∃Z,Hid (Z=z8 ⟨N,k,V,M,xs,L,ys,S,T⟩):=⟨_,rfl⟩;rw[<-hZ.out];by_cases qN:N=0
 rotate_left
 .have dN:(N==0)=false:=by simp[qN]
  have E:Hid (Z=false):=by
   show Z=_;rw[hZ.out];unfold z8;simp[qN]
  clear hZ;go_enter func97,ntmps97;go_wp2;go_ret;rw[E.out];exact⟨rfl,below_alloc _ _⟩
 subst qN;by_cases qk:k=0;rotate_left
 .have dk:(k==0)=false:=by simp[qk]
  have E:Hid (Z=false):=by
   show Z=_;rw[hZ.out];unfold z8;simp[qk]
  clear hZ;go_enter func97,ntmps97;go_wp2;go_ret;rw[E.out];exact⟨rfl,below_alloc _ _⟩
 subst qk;by_cases qV:V=0;rotate_left
 .have dV:(V==0)=false:=by simp[qV]
  have E:Hid (Z=false):=by
   show Z=_;rw[hZ.out];unfold z8;simp[qV]
  clear hZ;go_enter func97,ntmps97;go_wp2;go_ret;rw[E.out];exact⟨rfl,below_alloc _ _⟩
 subst qV
 obtain⟨W,hW⟩:∃W,W=(w.alloc (.cells #[.int .i64 0,.int .i64 0,.int .i64 0,.int .i64 M,.slice ao xs.length cap,.int .i64 L,.slice qo ys.length dap,.slice so S.length sc,.slice tO T.length tc] 59)).alloc (.cells #[.int .i64 M,.slice ao xs.length cap,.int .i64 L,.slice qo ys.length dap] 53):=⟨_,rfl⟩
 have bW:=cZ hW
 have R:Hid (∀w0:World,w0=W->Qq 151 #[.slice (some ⟨w.heap.size+1,0,none⟩) 2 2] w0 (.bool (norw [(M,xs.length),(L,ys.length)]))):=fun w0 g=>by
  subst g;refine qw _ 2 [(M,xs.length),(L,ys.length)] w0 ?_ (by simp)
  have hx:=tA (w.alloc (.cells #[.int .i64 0,.int .i64 0,.int .i64 0,.int .i64 M,.slice ao xs.length cap,.int .i64 L,.slice qo ys.length dap,.slice so S.length sc,.slice tO T.length tc] 59)) M ao xs.length cap L qo ys.length dap 53
  rw[show(w.alloc (.cells #[.int .i64 0,.int .i64 0,.int .i64 0,.int .i64 M,.slice ao xs.length cap,.int .i64 L,.slice qo ys.length dap,.slice so S.length sc,.slice tO T.length tc] 59)).heap.size=w.heap.size+1 by simp]at hx
  rw[hW];exact hx
 subst hW;cases hn:norw [(M,xs.length),(L,ys.length)]with
 | false=>
  have E:Hid (Z=false):=by
   show Z=_;rw[hZ.out];unfold z8;simp[hn]
  clear hZ;rw[hn]at R;go_enter func97,ntmps97;go_wp2_with fail;refine mr (R.out _ (by rfl)) fun w1 hb=>?_
  have g0:=((aa.new w [.int .i64 0,.int .i64 0,.int .i64 0,.int .i64 M,.slice ao xs.length cap,.int .i64 L,.slice qo ys.length dap,.slice so S.length sc,.slice tO T.length tc] 59).kept (below_alloc _ _)).kept hb
  have g1:=g0.cell 7 rfl;have g2:=g0.cell 8 rfl;clear g0;replace hb:=bg bW hb;go_wp2;go_ret;rw[E.out];exact⟨rfl,hb⟩
 | true=>
  by_cases qS:(S.length:Int)=0;rotate_left
  .have dS:((S.length:Int)==0)=false:=beq_eq_false_iff_ne.2 qS
   have E:Hid (Z=false):=by
    show Z=_;rw[hZ.out];unfold z8;simp[hn,show ¬S=[]from fun e=>qS (by rw[e];rfl)]
   clear hZ;rw[hn]at R;go_enter func97,ntmps97;go_wp2_with fail;refine mr (R.out _ (by rfl)) fun w1 hb=>?_
   have g0:=((aa.new w [.int .i64 0,.int .i64 0,.int .i64 0,.int .i64 M,.slice ao xs.length cap,.int .i64 L,.slice qo ys.length dap,.slice so S.length sc,.slice tO T.length tc] 59).kept (below_alloc _ _)).kept hb
   have g1:=g0.cell 7 rfl;have g2:=g0.cell 8 rfl;clear g0;replace hb:=bg bW hb;go_wp2;go_ret;rw[E.out];exact⟨rfl,hb⟩
  have dS:((S.length:Int)==0)=true:=by simp only[qS];rfl
  by_cases qT:(T.length:Int)=0;rotate_left
  .have dT:((T.length:Int)==0)=false:=beq_eq_false_iff_ne.2 qT
   have E:Hid (Z=false):=by
    show Z=_;rw[hZ.out];unfold z8;simp[hn,show S=[]from List.eq_nil_of_length_eq_zero (by omega),show ¬T=[]from fun e=>qT (by rw[e];rfl)]
   clear hZ;rw[hn]at R;go_enter func97,ntmps97;go_wp2_with fail;refine mr (R.out _ (by rfl)) fun w1 hb=>?_
   have g0:=((aa.new w [.int .i64 0,.int .i64 0,.int .i64 0,.int .i64 M,.slice ao xs.length cap,.int .i64 L,.slice qo ys.length dap,.slice so S.length sc,.slice tO T.length tc] 59).kept (below_alloc _ _)).kept hb
   have g1:=g0.cell 7 rfl;have g2:=g0.cell 8 rfl;clear g0;replace hb:=bg bW hb;go_wp2;go_ret;rw[E.out];exact⟨rfl,hb⟩
  have dT:((T.length:Int)==0)=true:=by simp only[qT];rfl
  have E:Hid (Z=true):=by
   show Z=_;rw[hZ.out];unfold z8;simp[hn,show S=[]from List.eq_nil_of_length_eq_zero (by omega),show T=[]from List.eq_nil_of_length_eq_zero (by omega)]
  clear hZ;rw[hn]at R;go_enter func97,ntmps97;go_wp2_with fail;refine mr (R.out _ (by rfl)) fun w1 hb=>?_
  have g0:=((aa.new w [.int .i64 0,.int .i64 0,.int .i64 0,.int .i64 M,.slice ao xs.length cap,.int .i64 L,.slice qo ys.length dap,.slice so S.length sc,.slice tO T.length tc] 59).kept (below_alloc _ _)).kept hb
  have g1:=g0.cell 7 rfl;have g2:=g0.cell 8 rfl;clear g0;replace hb:=bg bW hb;go_wp2;go_ret;rw[E.out];exact⟨rfl,hb⟩
theorem DV(cs:List Value)(a:bF)(w:World)(h:fG w cs a):
  Qq 98 #[.agg cs.toArray] w (.bool (z9 a)):=by
 obtain⟨ao,cap,qo,dap,rfl, -⟩:=h;obtain⟨N,M,k,V,LM,xs,H,ys⟩:=a;dsimp only;obtain⟨Z,hZ⟩:∃Z,Hid (Z=z9 ⟨N,M,k,V,LM,xs,H,ys⟩):=⟨_,rfl⟩;rw[<-hZ.out];by_cases qN:N=0;rotate_left
 .have dN:(N==0)=false:=by simp[qN]
  have E:Hid (Z=false):=by
   show Z=_;rw[hZ.out];unfold z9;simp[qN]
  clear hZ;go_enter func98,ntmps98;go_wp2;go_ret;rw[E.out];exact⟨rfl,below_alloc _ _⟩
 subst qN;by_cases qM:M=0;rotate_left
 .have dM:(M==0)=false:=by simp[qM]
  have E:Hid (Z=false):=by
   show Z=_;rw[hZ.out];unfold z9;simp[qM]
  clear hZ;go_enter func98,ntmps98;go_wp2;go_ret;rw[E.out];exact⟨rfl,below_alloc _ _⟩
 subst qM;by_cases qk:k=0;rotate_left
 .have dk:(k==0)=false:=by simp[qk]
  have E:Hid (Z=false):=by
   show Z=_;rw[hZ.out];unfold z9;simp[qk]
  clear hZ;go_enter func98,ntmps98;go_wp2;go_ret;rw[E.out];exact⟨rfl,below_alloc _ _⟩
 subst qk;by_cases qV:V=0;rotate_left
 .have dV:(V==0)=false:=by simp[qV]
  have E:Hid (Z=false):=by
   show Z=_;rw[hZ.out];unfold z9;simp[qV]
  clear hZ;go_enter func98,ntmps98;go_wp2;go_ret;rw[E.out];exact⟨rfl,below_alloc _ _⟩
 subst qV
 obtain⟨W,hW⟩:∃W,W=(w.alloc (.cells #[.int .i64 0,.int .i64 0,.int .i64 0,.int .i64 0,.int .i64 LM,.slice ao xs.length cap,.int .i64 H,.slice qo ys.length dap] 61)).alloc (.cells #[.int .i64 LM,.slice ao xs.length cap,.int .i64 H,.slice qo ys.length dap] 53):=⟨_,rfl⟩
 have bW:=cZ hW
 have R:Hid (∀w0:World,w0=W->Qq 151 #[.slice (some ⟨w.heap.size+1,0,none⟩) 2 2] w0 (.bool (norw [(LM,xs.length),(H,ys.length)]))):=fun w0 g=>by
  subst g;refine qw _ 2 [(LM,xs.length),(H,ys.length)] w0 ?_ (by simp)
  have hx:=tA (w.alloc (.cells #[.int .i64 0,.int .i64 0,.int .i64 0,.int .i64 0,.int .i64 LM,.slice ao xs.length cap,.int .i64 H,.slice qo ys.length dap] 61)) LM ao xs.length cap H qo ys.length dap 53
  rw[show(w.alloc (.cells #[.int .i64 0,.int .i64 0,.int .i64 0,.int .i64 0,.int .i64 LM,.slice ao xs.length cap,.int .i64 H,.slice qo ys.length dap] 61)).heap.size=w.heap.size+1 by simp]at hx;rw[hW];exact hx
 subst hW;cases hn:norw [(LM,xs.length),(H,ys.length)]with
 | false=>
  have E:Hid (Z=false):=by
   show Z=_;rw[hZ.out];unfold z9;simp[hn]
  clear hZ;rw[hn]at R;go_enter func98,ntmps98;go_wp2_with fail;refine mr (R.out _ (by rfl)) fun w1 hb=>?_;replace hb:=bg bW hb;go_wp2;go_ret;rw[E.out];exact⟨rfl,hb⟩
 | true=>
  have E:Hid (Z=true):=by
   show Z=_;rw[hZ.out];unfold z9;simp[hn]
  clear hZ;rw[hn]at R;go_enter func98,ntmps98;go_wp2_with fail;refine mr (R.out _ (by rfl)) fun w1 hb=>?_;replace hb:=bg bW hb;go_wp2;go_ret;rw[E.out];exact⟨rfl,hb⟩
theorem parts{w:World}{b:Nat}{K:Value}{cp cr cf:List Value}{T:TypeId}(l4:cp.length=4)(l9:9=cr.length)(h:aa w b (K::(cp++(cr++cf))) T):w.cell? ⟨b,0,none⟩=some K/\w.rangeAt b 1 cp/\w.rangeAt b 5 cr/\w.rangeAt b 14 cf:=by
 have a2:=aa.part (K::cp) cr cf h;rw[List.length_cons,l4]at a2;have h':aa w b ((K::(cp++cr))++(cf++[])) T:=by simpa using h
 have a3:=aa.part (K::(cp++cr)) cf [] h';rw[List.length_cons,List.length_append,l4,<-l9]at a3;exact⟨h.cell 0 rfl,aa.part [K] cp (cr++cf) h,a2,a3⟩
theorem iU(cs:List Value)(a:RA)(w:World)(h:dD w cs a):
  Qq 55 #[.agg cs.toArray] w (.int .i64 (kOn a)):=by
 obtain⟨cp,cr,cf,rfl,hK,h1,h2,h3⟩:=h;have l4:=Hid.mk8 h1.four;have l9:=Hid.mk8 h2.nine;have LP:=Hid.mk8 h1.len;have LR:=Hid.mk8 h2.len;have LF:=Hid.mk8 h3.len;obtain⟨K,p,r,f⟩:=a;dsimp only at *
 obtain⟨W,hW⟩:∃W,W=w.alloc (.cells (Value.int .i64 K::(cp++(cr++cf))).toArray 63):=⟨_,rfl⟩;have bw:Below w.heap.size w W:=by rw[hW];exact below_alloc w _
 have B0:=bn hW;obtain⟨O,hO⟩:∃O,Hid (O=kOn ⟨K,p,r,f⟩):=⟨_,rfl⟩;rw[<-hO.out]
 have N7:Hid (Qz w 96 #[.agg cp.toArray] (.bool (z7 p))):=fun w0 g=>DU cp p w0 (h1.keep g)
 have N8:Hid (Qz w 97 #[.agg cr.toArray] (.bool (z8 r))):=fun w0 g=>DT cr r w0 (h2.keep g)
 have N9:Hid (Qz w 98 #[.agg cf.toArray] (.bool (z9 f))):=fun w0 g=>DV cf f w0 (h3.keep g);clear h1 h2 h3;subst hW
 by_cases q1:K=1
 .subst q1;cases y8:z8 r with
  | false=>
   have E:Hid (O=0):=by
    show O=_;rw[hO.out];unfold kOn cO;simp[y8]
   rw[y8]at N8;clear hO;go_enter func55,ntmps55;obtain⟨c0,p1,p2,p3⟩:=parts l4.out l9.out B0;go_wp2_with (refine aR w.heap.size 5 cr (by rfl) rfl p2 underlying59 LR.out ?_)
   refine mr (N8.out _ bw) fun w8 hb=>?_;replace B0:=B0.kept hb;replace bw:=bg bw hb;clear hb c0 p1 p2 p3;obtain⟨c0,p1,p2,p3⟩:=parts l4.out l9.out B0;go_wp2;go_ret;rw[E.out]
   exact⟨rfl,bw⟩
  | true=>
   cases y9:z9 f with
   | false=>
    have E:Hid (O=0):=by
     show O=_;rw[hO.out];unfold kOn cO;simp[y8,y9]
    rw[y8]at N8;rw[y9]at N9;clear hO;go_enter func55,ntmps55;obtain⟨c0,p1,p2,p3⟩:=parts l4.out l9.out B0;go_wp2_with (refine aR w.heap.size 5 cr (by rfl) rfl p2 underlying59 LR.out ?_)
    refine mr (N8.out _ bw) fun w8 hb=>?_;replace B0:=B0.kept hb;replace bw:=bg bw hb;clear hb c0 p1 p2 p3;obtain⟨c0,p1,p2,p3⟩:=parts l4.out l9.out B0
    go_wp2_with (refine aR w.heap.size 14 cf (by rfl) rfl p3 underlying61 LF.out ?_);refine mr (N9.out _ bw) fun w9 hb=>?_;replace B0:=B0.kept hb;replace bw:=bg bw hb
    clear hb c0 p1 p2 p3;obtain⟨c0,p1,p2,p3⟩:=parts l4.out l9.out B0;go_wp2;go_ret;rw[E.out];exact⟨rfl,bw⟩
   | true=>
    have E:Hid (O=1):=by
     show O=_;rw[hO.out];unfold kOn cO;simp[y8,y9]
    rw[y8]at N8;rw[y9]at N9;clear hO;go_enter func55,ntmps55;obtain⟨c0,p1,p2,p3⟩:=parts l4.out l9.out B0;go_wp2_with (refine aR w.heap.size 5 cr (by rfl) rfl p2 underlying59 LR.out ?_)
    refine mr (N8.out _ bw) fun w8 hb=>?_;replace B0:=B0.kept hb;replace bw:=bg bw hb;clear hb c0 p1 p2 p3;obtain⟨c0,p1,p2,p3⟩:=parts l4.out l9.out B0
    go_wp2_with (refine aR w.heap.size 14 cf (by rfl) rfl p3 underlying61 LF.out ?_);refine mr (N9.out _ bw) fun w9 hb=>?_;replace B0:=B0.kept hb;replace bw:=bg bw hb
    clear hb c0 p1 p2 p3;obtain⟨c0,p1,p2,p3⟩:=parts l4.out l9.out B0;go_wp2;go_ret;rw[E.out];exact⟨rfl,bw⟩
 have d1:(K != 1)=true:=by simp[q1]
 by_cases q2:K=2
 .subst q2;cases y7:z7 p with
  | false=>
   have E:Hid (O=0):=by
    show O=_;rw[hO.out];unfold kOn cO;simp[y7]
   rw[y7]at N7;clear hO;go_enter func55,ntmps55;obtain⟨c0,p1,p2,p3⟩:=parts l4.out l9.out B0;go_wp2_with (refine aR w.heap.size 1 cp (by rfl) rfl p1 underlying55 LP.out ?_)
   refine mr (N7.out _ bw) fun w7 hb=>?_;replace B0:=B0.kept hb;replace bw:=bg bw hb;clear hb c0 p1 p2 p3;obtain⟨c0,p1,p2,p3⟩:=parts l4.out l9.out B0;go_wp2;go_ret;rw[E.out]
   exact⟨rfl,bw⟩
  | true=>
   cases y9:z9 f with
   | false=>
    have E:Hid (O=0):=by
     show O=_;rw[hO.out];unfold kOn cO;simp[y7,y9]
    rw[y7]at N7;rw[y9]at N9;clear hO;go_enter func55,ntmps55;obtain⟨c0,p1,p2,p3⟩:=parts l4.out l9.out B0;go_wp2_with (refine aR w.heap.size 1 cp (by rfl) rfl p1 underlying55 LP.out ?_)
    refine mr (N7.out _ bw) fun w7 hb=>?_;replace B0:=B0.kept hb;replace bw:=bg bw hb;clear hb c0 p1 p2 p3;obtain⟨c0,p1,p2,p3⟩:=parts l4.out l9.out B0
    go_wp2_with (refine aR w.heap.size 14 cf (by rfl) rfl p3 underlying61 LF.out ?_);refine mr (N9.out _ bw) fun w9 hb=>?_;replace B0:=B0.kept hb;replace bw:=bg bw hb
    clear hb c0 p1 p2 p3;obtain⟨c0,p1,p2,p3⟩:=parts l4.out l9.out B0;go_wp2;go_ret;rw[E.out];exact⟨rfl,bw⟩
   | true=>
    have E:Hid (O=2):=by
     show O=_;rw[hO.out];unfold kOn cO;simp[y7,y9]
    rw[y7]at N7;rw[y9]at N9;clear hO;go_enter func55,ntmps55;obtain⟨c0,p1,p2,p3⟩:=parts l4.out l9.out B0;go_wp2_with (refine aR w.heap.size 1 cp (by rfl) rfl p1 underlying55 LP.out ?_)
    refine mr (N7.out _ bw) fun w7 hb=>?_;replace B0:=B0.kept hb;replace bw:=bg bw hb;clear hb c0 p1 p2 p3;obtain⟨c0,p1,p2,p3⟩:=parts l4.out l9.out B0
    go_wp2_with (refine aR w.heap.size 14 cf (by rfl) rfl p3 underlying61 LF.out ?_);refine mr (N9.out _ bw) fun w9 hb=>?_;replace B0:=B0.kept hb;replace bw:=bg bw hb
    clear hb c0 p1 p2 p3;obtain⟨c0,p1,p2,p3⟩:=parts l4.out l9.out B0;go_wp2;go_ret;rw[E.out];exact⟨rfl,bw⟩
 have d2:(K != 2)=true:=by simp[q2]
 by_cases q3:K=3
 .subst q3;cases y7:z7 p with
  | false=>
   have E:Hid (O=0):=by
    show O=_;rw[hO.out];unfold kOn cO;simp[y7]
   rw[y7]at N7;clear hO;go_enter func55,ntmps55;obtain⟨c0,p1,p2,p3⟩:=parts l4.out l9.out B0;go_wp2_with (refine aR w.heap.size 1 cp (by rfl) rfl p1 underlying55 LP.out ?_)
   refine mr (N7.out _ bw) fun w7 hb=>?_;replace B0:=B0.kept hb;replace bw:=bg bw hb;clear hb c0 p1 p2 p3;obtain⟨c0,p1,p2,p3⟩:=parts l4.out l9.out B0;go_wp2;go_ret;rw[E.out]
   exact⟨rfl,bw⟩
  | true=>
   cases y8:z8 r with
   | false=>
    have E:Hid (O=0):=by
     show O=_;rw[hO.out];unfold kOn cO;simp[y7,y8]
    rw[y7]at N7;rw[y8]at N8;clear hO;go_enter func55,ntmps55;obtain⟨c0,p1,p2,p3⟩:=parts l4.out l9.out B0;go_wp2_with (refine aR w.heap.size 1 cp (by rfl) rfl p1 underlying55 LP.out ?_)
    refine mr (N7.out _ bw) fun w7 hb=>?_;replace B0:=B0.kept hb;replace bw:=bg bw hb;clear hb c0 p1 p2 p3;obtain⟨c0,p1,p2,p3⟩:=parts l4.out l9.out B0
    go_wp2_with (refine aR w.heap.size 5 cr (by rfl) rfl p2 underlying59 LR.out ?_);refine mr (N8.out _ bw) fun w8 hb=>?_;replace B0:=B0.kept hb;replace bw:=bg bw hb
    clear hb c0 p1 p2 p3;obtain⟨c0,p1,p2,p3⟩:=parts l4.out l9.out B0;go_wp2;go_ret;rw[E.out];exact⟨rfl,bw⟩
   | true=>
    have E:Hid (O=3):=by
     show O=_;rw[hO.out];unfold kOn cO;simp[y7,y8]
    rw[y7]at N7;rw[y8]at N8;clear hO;go_enter func55,ntmps55;obtain⟨c0,p1,p2,p3⟩:=parts l4.out l9.out B0;go_wp2_with (refine aR w.heap.size 1 cp (by rfl) rfl p1 underlying55 LP.out ?_)
    refine mr (N7.out _ bw) fun w7 hb=>?_;replace B0:=B0.kept hb;replace bw:=bg bw hb;clear hb c0 p1 p2 p3;obtain⟨c0,p1,p2,p3⟩:=parts l4.out l9.out B0
    go_wp2_with (refine aR w.heap.size 5 cr (by rfl) rfl p2 underlying59 LR.out ?_);refine mr (N8.out _ bw) fun w8 hb=>?_;replace B0:=B0.kept hb;replace bw:=bg bw hb
    clear hb c0 p1 p2 p3;obtain⟨c0,p1,p2,p3⟩:=parts l4.out l9.out B0;go_wp2;go_ret;rw[E.out];exact⟨rfl,bw⟩
 have d3:(K != 3)=true:=by simp[q3]
 cases y7:z7 p with
 | false=>
  have E:Hid (O=0):=by
   show O=_;rw[hO.out];unfold kOn cO;simp[q1,q2,q3,y7]
  rw[y7]at N7;clear hO;go_enter func55,ntmps55;obtain⟨c0,p1,p2,p3⟩:=parts l4.out l9.out B0;go_wp2_with (refine aR w.heap.size 1 cp (by rfl) rfl p1 underlying55 LP.out ?_)
  refine mr (N7.out _ bw) fun w7 hb=>?_;replace B0:=B0.kept hb;replace bw:=bg bw hb;clear hb c0 p1 p2 p3;obtain⟨c0,p1,p2,p3⟩:=parts l4.out l9.out B0;go_wp2;go_ret;rw[E.out]
  exact⟨rfl,bw⟩
 | true=>
  cases y8:z8 r with
  | false=>
   have E:Hid (O=0):=by
    show O=_;rw[hO.out];unfold kOn cO;simp[q1,q2,q3,y7,y8]
   rw[y7]at N7;rw[y8]at N8;clear hO;go_enter func55,ntmps55;obtain⟨c0,p1,p2,p3⟩:=parts l4.out l9.out B0;go_wp2_with (refine aR w.heap.size 1 cp (by rfl) rfl p1 underlying55 LP.out ?_)
   refine mr (N7.out _ bw) fun w7 hb=>?_;replace B0:=B0.kept hb;replace bw:=bg bw hb;clear hb c0 p1 p2 p3;obtain⟨c0,p1,p2,p3⟩:=parts l4.out l9.out B0
   go_wp2_with (refine aR w.heap.size 5 cr (by rfl) rfl p2 underlying59 LR.out ?_);refine mr (N8.out _ bw) fun w8 hb=>?_;replace B0:=B0.kept hb;replace bw:=bg bw hb
   clear hb c0 p1 p2 p3;obtain⟨c0,p1,p2,p3⟩:=parts l4.out l9.out B0;go_wp2;go_ret;rw[E.out];exact⟨rfl,bw⟩
  | true=>
   cases y9:z9 f with
   | false=>
    have E:Hid (O=0):=by
     show O=_;rw[hO.out];unfold kOn cO;simp[q1,q2,q3,y7,y8,y9]
    rw[y7]at N7;rw[y8]at N8;rw[y9]at N9;clear hO;go_enter func55,ntmps55;obtain⟨c0,p1,p2,p3⟩:=parts l4.out l9.out B0
    go_wp2_with (refine aR w.heap.size 1 cp (by rfl) rfl p1 underlying55 LP.out ?_);refine mr (N7.out _ bw) fun w7 hb=>?_;replace B0:=B0.kept hb;replace bw:=bg bw hb
    clear hb c0 p1 p2 p3;obtain⟨c0,p1,p2,p3⟩:=parts l4.out l9.out B0;go_wp2_with (refine aR w.heap.size 5 cr (by rfl) rfl p2 underlying59 LR.out ?_);refine mr (N8.out _ bw) fun w8 hb=>?_
    replace B0:=B0.kept hb;replace bw:=bg bw hb;clear hb c0 p1 p2 p3;obtain⟨c0,p1,p2,p3⟩:=parts l4.out l9.out B0
    go_wp2_with (refine aR w.heap.size 14 cf (by rfl) rfl p3 underlying61 LF.out ?_);refine mr (N9.out _ bw) fun w9 hb=>?_;replace B0:=B0.kept hb;replace bw:=bg bw hb
    clear hb c0 p1 p2 p3;obtain⟨c0,p1,p2,p3⟩:=parts l4.out l9.out B0;go_wp2;go_ret;rw[E.out];exact⟨rfl,bw⟩
   | true=>
    have E:Hid (O=K):=by
     show O=_;rw[hO.out];unfold kOn cO;simp[q1,q2,q3,y7,y8,y9]
    rw[y7]at N7;rw[y8]at N8;rw[y9]at N9;clear hO;go_enter func55,ntmps55;obtain⟨c0,p1,p2,p3⟩:=parts l4.out l9.out B0
    go_wp2_with (refine aR w.heap.size 1 cp (by rfl) rfl p1 underlying55 LP.out ?_);refine mr (N7.out _ bw) fun w7 hb=>?_;replace B0:=B0.kept hb;replace bw:=bg bw hb
    clear hb c0 p1 p2 p3;obtain⟨c0,p1,p2,p3⟩:=parts l4.out l9.out B0;go_wp2_with (refine aR w.heap.size 5 cr (by rfl) rfl p2 underlying59 LR.out ?_);refine mr (N8.out _ bw) fun w8 hb=>?_
    replace B0:=B0.kept hb;replace bw:=bg bw hb;clear hb c0 p1 p2 p3;obtain⟨c0,p1,p2,p3⟩:=parts l4.out l9.out B0
    go_wp2_with (refine aR w.heap.size 14 cf (by rfl) rfl p3 underlying61 LF.out ?_);refine mr (N9.out _ bw) fun w9 hb=>?_;replace B0:=B0.kept hb;replace bw:=bg bw hb
    clear hb c0 p1 p2 p3;obtain⟨c0,p1,p2,p3⟩:=parts l4.out l9.out B0;go_wp2;go_ret;rw[E.out];exact⟨rfl,bw⟩
end Go.Proofs.YtleegaihbgbcjabGreatDoor
