import Derived.Test.YtfnkklkdajlhlaaGreatDoorE20
set_option linter.unusedVariables false
set_option linter.unusedSimpArgs false
set_option maxRecDepth 100000
set_option maxHeartbeats 16000000
namespace Go.Proofs.YtfnkklkdajlhlaaGreatDoor
open Go.RowKit Num Bit Bn
theorem blv_lt64(m:Nat)(f:Nat→Bool)(i:Nat):blv m f i<18446744073709551616:=by have:=blv_lt m f i;omega
theorem count_is(m:Nat)(Y:List Nat)(bit:Bool)(i j:Nat)(h0:0<i)(hj:j=(i-1)/15)(hi:i≤m):bon m (bitAt Y) j+cnt (blv m (bitAt Y) j) (i-15*j)=cntB Y i:=by
 have a:=bon_cnt m Y j (by omega);have b:=blv_cnt m Y j (i-15*j) (by omega) (by omega);rw[show 15*j+(i-15*j)=i by omega]at b;omega
theorem qcount_c(cs:List Value)(a:RA8)(m i:Nat)(Y:List Nat)(bit:Bool)(w:World)(h:KI8 w cs a)(v:KV a m Y)(hi:i≤m):
  Qq 135 #[.agg cs.toArray,.bool bit,.int .i64 i] w (.int .i64 (cB Y bit i:Nat)):=by
 have hm:=v.le;obtain⟨j,hj⟩:∃j,j=(i-1)/15:=⟨_,rfl⟩
 have HB:Hid (0<i→Qz w 117 #[.agg cs.toArray,.int .i64 (j:Int)] (.tuple #[.agg #[.int .i64 (cls a.xs j:Nat),.int .u64 (cOff a.L a.ys a.xs j:Nat)],.agg #[.int .i64 (cOn a.xs j:Nat),.int .i64 (cAt a.xs j:Nat)]])):=by
  intro h0 w0 hb;exact qblockAt_c cs a m j Y w0 (h.keep hb) v (by unfold nb;omega)
 have HW:Hid (0<i→∀w0,Qq 118 #[.agg #[.int .i64 (cls a.xs j:Nat),.int .u64 (cOff a.L a.ys a.xs j:Nat)]] w0 (.int .u64 (blv m (bitAt Y) j:Nat))):=by
  intro h0 w0;have hjn:j<nb m:=by unfold nb;omega
  have:=qwordOf_c (cls a.xs j) (cOff a.L a.ys a.xs j) (cls_le _ _) (v.off j hjn) w0;rw[v.wd j hjn]at this;exact this
 have HR:Hid (0<i→∀w0,Qx 160 #[.int .u64 (blv m (bitAt Y) j:Nat),.int .i64 ((i:Int)-(j:Int)*15)] w0 (.int .i64 (cnt (blv m (bitAt Y) j) (i-15*j):Nat))):=by
  intro h0 w0;have:=rank_c (blv m (bitAt Y) j:Nat) ((i:Int)-(j:Int)*15) (by omega) (by have:=blv_lt64 m (bitAt Y) j;omega) w0;unfold rankI at this
  rw[Int.toNat_natCast,show min ((i:Int)-(j:Int)*15).toNat 64=i-15*j by omega]at this;exact this
 have HS:Hid (0<i→cOn a.xs j+cnt (blv m (bitAt Y) j) (i-15*j)=cntB Y i):=by
  intro h0;rw[v.on j (by unfold nb;omega)];exact count_is m Y bit i j h0 hj hi
 have cl:=cntB_le Y i
 have HO:Hid (∀w0,Qx 184 #[.bool bit,.int .i64 i,.int .i64 (cntB Y i:Nat)] w0 (.int .i64 (cB Y bit i:Nat))):=fun w0=>qofBit_c bit i (cntB Y i) cl (by omega) w0;clear v
 obtain⟨⟨ao,cap,qo,dap,so,sc,tO,tc,rfl,_⟩,_⟩:=h;obtain⟨N,k,V,M,xs,L,ys,S,T⟩:=a;dsimp only at *
 obtain⟨W,hW⟩:∃W,W=w.alloc (.cells #[.int .i64 N,.int .i64 k,.int .i64 V,.int .i64 M,.slice ao xs.length cap,.int .i64 L,.slice qo ys.length dap,.slice so S.length sc,.slice tO T.length tc] 41):=⟨_,rfl⟩
 have bW:=yb1 hW;by_cases h0:i=0
 ·subst h0;have z:cB Y bit 0=0:=by have:=cB_le Y bit 0;omega
  rw[z];clear HB HW HR HS HO;go_enter Tryz.func135,Tryz.ntmps135;go_wp2;go_ret;rw[←hW];exact⟨rfl,bW⟩
 ·have h1:0<i:=by omega
  have HS2:=HS.out h1;clear HS;have hji:j*15≤i:=by omega
  have i0:((i:Int)==0)=false:=by simp;omega
  have cv:=cnt_le (blv m (bitAt Y) j) (i-15*j);have hjd:((i:Int)-1)/15=(j:Int):=by omega
  have hjb:j≤1048576:=by omega
  generalize cls xs j=c at *;generalize cOff L ys xs j=o at *;generalize cOn xs j=s at *;generalize cAt xs j=p at *;generalize cnt (blv m (bitAt Y) j) (i-15*j)=rk at *;generalize blv m (bitAt Y) j=bw at *
  generalize cB Y bit i=res at *;generalize cntB Y i=cn at *;have hj2:((i-1:Nat):Int)/15=(j:Int):=by omega
  have u2:Hid (IntKind.i64.wrap ((i:Int)-IntKind.i64.wrap (((i-1:Nat):Int)/15*15))=(i:Int)-(j:Int)*15):=by
   have w1:IntKind.i64.wrap ((j:Int)*15)=(j:Int)*15:=by rw[IntKind.wrap_i64];omega
   have w2:IntKind.i64.wrap ((i:Int)-(j:Int)*15)=(i:Int)-(j:Int)*15:=by rw[IntKind.wrap_i64];omega
   show IntKind.i64.wrap ((i:Int)-IntKind.i64.wrap (((i-1:Nat):Int)/15*15))=(i:Int)-(j:Int)*15;rw[hj2,w1,w2]
  clear hj2;have u3:IntKind.i64.wrap ((s:Int)+(rk:Int))=(cn:Int):=by rw[IntKind.wrap_i64];omega
  go_enter Tryz.func135,Tryz.ntmps135;go_wp2_with fail;rw[←hW,show((i-1:Nat):Int)/15=(j:Int)by omega,hjd];refine mr (HB.out (by first | exact h1 | trivial) _ bW) fun w1 hb=>?_
  have bw1:=bg bW hb;clear hW hb HB bW;go_wp2;have hb8:=below_alloc w1 (.cells #[.int .i64 (c:Nat),.int .u64 (o:Nat)] 165)
  have hb9:=below_alloc (w1.alloc (.cells #[.int .i64 (c:Nat),.int .u64 (o:Nat)] 165)) (.cells #[.int .i64 (s:Nat),.int .i64 (p:Nat)] 149)
  have B1:=(Cel.new w1 [.int .i64 (c:Nat),.int .u64 (o:Nat)] 165).kept hb9;have B2:=Cel.new2 w1 (.cells #[.int .i64 (c:Nat),.int .u64 (o:Nat)] 165) [.int .i64 (s:Nat),.int .i64 (p:Nat)] 149
  have bV:=bw1.trans ((hb8.trans (hb9.mono (by simp))).mono bw1.size);clear hb8 hb9 bw1
  refine region_g [] (fun w'=>Cel w' w1.heap.size [.int .i64 (c:Nat),.int .u64 (o:Nat)] 165∧Cel w' (w1.heap.size+1) [.int .i64 (s:Nat),.int .i64 (p:Nat)] 149) (by kernel_rfl) ?_
  generalize (w1.alloc (.cells #[.int .i64 (c:Nat),.int .u64 (o:Nat)] 165)).alloc (.cells #[.int .i64 (s:Nat),.int .i64 (p:Nat)] 149)=U at *
  have hS:Cel U.drew w1.heap.size [.int .i64 (c:Nat),.int .u64 (o:Nat)] 165∧Cel U.drew (w1.heap.size+1) [.int .i64 (s:Nat),.int .i64 (p:Nat)] 149:=⟨B1,B2⟩;replace bV:Below w.heap.size w U.drew:=bV.drew
  generalize U.drew=Z at *;clear B1 B2;refine aK 0 hS ?_;refine aK 1 hS ?_;refine aK 2 hS ?_;refine aF 3 hS rfl (fun w0 h0=>by have c0:=h0.2.cell 0 rfl;go_simp;try with_reducible rfl) ?_
  refine aF 4 hS rfl (fun w0 h0=>by have c0:=h0.1.cell 0 rfl;have c1:=h0.1.cell 1 rfl;go_simp;try with_reducible rfl) ?_;refine aK 6 hS ?_;refine aK 7 hS ?_;refine aK 8 hS ?_;refine aK 9 hS ?_
  refine aO 5 ?_;intro K hK;go_simp;refine mr (HW.out (by first | exact h1 | trivial) _) fun w3 hb=>?_;have hS3:=And.intro (hS.1.kept hb) (hS.2.kept hb);have bw3:=bg bV hb;clear hb hS bV HW
  refine hK.out _ _ (fun _=>hS3) ?_;clear hK K;try simp only[Act.put,yq0,yq1,yq2,yq3,yq4,yq5]
  refine aO 10 ?_;intro K hK;go_simp;rw[u2.out];refine(HR.out (by first | exact h1 | trivial) _).mono ?_;rintro e w4 ⟨rfl,rfl⟩;refine hK.out _ _ (fun _=>hS3) ?_;clear hK K
  try simp only[Act.put,yq0,yq1,yq2,yq3,yq4,yq5]
  refine aK 11 hS3 ?_;refine aO 12 ?_;intro K hK;go_simp
  (try rw[u3]);refine(HO.out _).mono ?_;rintro e w5 ⟨rfl,rfl⟩;refine hK.out _ _ (fun _=>hS3) ?_;clear hK K;try simp only[Act.put,yq0,yq1,yq2,yq3,yq4,yq5]
  refine aK 13 hS3 ?_;refine AnyG.done (by kernel_rfl) ?_ _;go_wp2;go_ret;exact⟨rfl,bw3⟩
theorem bit_end(x:Nat)(hx:x<18446744073709551616)(k:Nat):(bits BinOp.and IntKind.u64 ((x:Int)/2^k) 1==1)=x.testBit k:=by
 rw[bit_and _ _ (by omega) (by omega),bit_test,Int.toNat_natCast,Bool.eq_iff_iff,beq_iff_eq,decide_eq_true_eq];omega
theorem blv_bit(m:Nat)(Y:List Nat)(n:Nat)(h:n<m):(blv m (bitAt Y) (n/15)).testBit (n%15)=bitAt Y n:=by
 unfold blv;rw[testBit_numOf,show 15*(n/15)+n%15=n by omega];simp[h,show n%15<15 by omega]
theorem ret_pair2{a b c d:Value}(h:a=b)(h2:c=d):Ending.returned (.tuple #[a,c])=.returned (.tuple #[b,d]):=by rw[h,h2]
theorem access_k8(cs:List Value)(a:RA8)(i:Int)(w:World)(h:KI8 w cs a)(hi:I64 i):
  Qq 64 #[.agg cs.toArray,.int .i64 i] w (.tuple #[.bool (gaB (kOk8 a) (kBN8 a) (kBX8 a) i),.int .i64 (gaE (kOk8 a) (kBN8 a) (kBX8 a) i)]):=by
 have C:=fun(w0:World) (hb:Below w.heap.size w w0)=>qcheck_c cs a w0 (h.keep hb);cases hk:kOk8 a with
 | false=>
  rw[hk]at C;have CH:Hid (Qz w 85 #[.agg cs.toArray] (.bool false)):=C
  show Calls _ _ _ _ fun e w'=>e=.returned (.tuple #[.bool false,.int .i64 2])∧Below w.heap.size w w';clear C hk;obtain⟨⟨ao,cap,qo,dap,so,sc,tO,tc,rfl,_⟩,_⟩:=h;obtain⟨N,k,V,M,xs,L,ys,S,T⟩:=a
  dsimp only at *
  obtain⟨W,hW⟩:∃W,W=w.alloc (.cells #[.int .i64 N,.int .i64 k,.int .i64 V,.int .i64 M,.slice ao xs.length cap,.int .i64 L,.slice qo ys.length dap,.slice so S.length sc,.slice tO T.length tc] 41):=⟨_,rfl⟩
  have bW:=yb1 hW;go_enter Tryz.func64,Tryz.ntmps64;go_wp2_with fail;rw[←hW];refine mr (CH.out _ bW) fun w1 hb=>?_;have bw1:=bg bW hb;clear hW hb;go_wp2;go_ret2;exact⟨rfl,bw1⟩
 | true=>
 rw[hk]at C;have CH:Hid (Qz w 85 #[.agg cs.toArray] (.bool true)):=C;obtain⟨m,eN,v⟩:=ok_kv a hk;have hm:=v.le
 have vN:=v.nN;have hck:=v.ck;clear C hk;rw[eN];generalize kBX8 a=Y at *;have ga:gaE true (m:Int) Y i=if i<0∨(m:Int)≤i then 3 else 0:=by unfold gaE getE;rw[hck];simp
 have gb:gaB true (m:Int) Y i=(decide (0≤i∧i<(m:Int))&&bitAt Y i.toNat):=by unfold gaB getB;rw[hck];simp
 by_cases hr:i<0∨(m:Int)≤i
 ·rw[ga,gb,if_pos hr,decide_eq_false (by omega),Bool.false_and];clear v ga gb;obtain⟨⟨ao,cap,qo,dap,so,sc,tO,tc,rfl,_⟩,_⟩:=h;obtain⟨N,k,V,M,xs,L,ys,S,T⟩:=a;dsimp only at *;subst vN
  obtain⟨W,hW⟩:∃W,W=w.alloc (.cells #[.int .i64 (m:Int),.int .i64 k,.int .i64 V,.int .i64 M,.slice ao xs.length cap,.int .i64 L,.slice qo ys.length dap,.slice so S.length sc,.slice tO T.length tc] 41):=⟨_,rfl⟩
  have bW:=yb1 hW;have B1:=yc1 hW;go_enter Tryz.func64,Tryz.ntmps64;go_wp2_with fail;rw[←hW];refine mr (CH.out _ bW) fun w1 hb=>?_;have bw1:=bg bW hb;have q0:=(B1.kept hb).cell 0 rfl
  clear hW hb;by_cases h0:i<0
  ·go_wp2;go_ret2;exact⟨rfl,bw1⟩
  ·have h1:(m:Int)≤i:=by omega
   go_wp2;go_ret2;exact⟨rfl,bw1⟩
 ·obtain⟨n,rfl⟩:=Int.eq_ofNat_of_zero_le (show 0≤i by omega);rw[ga,gb,if_neg hr,decide_eq_true (by omega),Bool.true_and,Int.toNat_natCast];have hn:n<m:=by omega
  have h0:¬(n:Int)<0:=by omega
  have h1:¬(m:Int)≤(n:Int):=by omega
  have hnb:n/15<nb m:=by unfold nb;omega
  have HB:Hid (Qz w 117 #[.agg cs.toArray,.int .i64 ((n:Int)/15)] (.tuple #[.agg #[.int .i64 (cls a.xs (n/15):Nat),.int .u64 (cOff a.L a.ys a.xs (n/15):Nat)],.agg #[.int .i64 (cOn a.xs (n/15):Nat),.int .i64 (cAt a.xs (n/15):Nat)]])):=by
   intro w0 hb;rw[show(n:Int)/15=((n/15:Nat):Int)by omega];exact qblockAt_c cs a m (n/15) Y w0 (h.keep hb) v hnb
  have HW:Hid (∀w0,Qq 118 #[.agg #[.int .i64 (cls a.xs (n/15):Nat),.int .u64 (cOff a.L a.ys a.xs (n/15):Nat)]] w0 (.int .u64 (blv m (bitAt Y) (n/15):Nat))):=by
   intro w0;have:=qwordOf_c (cls a.xs (n/15)) (cOff a.L a.ys a.xs (n/15)) (cls_le _ _) (v.off _ hnb) w0;rw[v.wd _ hnb]at this;exact this
  have HE:Hid ((bits BinOp.and IntKind.u64 ((blv m (bitAt Y) (n/15):Nat)/2^(n%15)) 1==1)=bitAt Y n):=by
   show(bits BinOp.and IntKind.u64 (((blv m (bitAt Y) (n/15):Nat):Int)/2^(n%15)) 1==1)=bitAt Y n;rw[bit_end _ (blv_lt64 _ _ _),blv_bit m Y n hn]
  clear v ga gb hr hck;generalize bitAt Y n=R at *;generalize blv m (bitAt Y) (n/15)=bw at *;obtain⟨⟨ao,cap,qo,dap,so,sc,tO,tc,rfl,_⟩,_⟩:=h;obtain⟨N,k,V,M,xs,L,ys,S,T⟩:=a;dsimp only at *;subst vN
  generalize cls xs (n/15)=c at *;generalize cOff L ys xs (n/15)=o at *;generalize cOn xs (n/15)=s at *;generalize cAt xs (n/15)=p at *
  obtain⟨W,hW⟩:∃W,W=w.alloc (.cells #[.int .i64 (m:Int),.int .i64 k,.int .i64 V,.int .i64 M,.slice ao xs.length cap,.int .i64 L,.slice qo ys.length dap,.slice so S.length sc,.slice tO T.length tc] 41):=⟨_,rfl⟩
  have bW:=yb1 hW;have B1:=yc1 hW;go_enter Tryz.func64,Tryz.ntmps64;go_wp2_with fail;rw[←hW];refine mr (CH.out _ bW) fun w1 hb=>?_;have bw1:=bg bW hb;replace B1:=B1.kept hb
  have q0:=B1.cell 0 rfl;have q1:=B1.cell 1 rfl;have q2:=B1.cell 2 rfl;have q3:=B1.cell 3 rfl;have q4:=B1.cell 4 rfl;have q5:=B1.cell 5 rfl;have q6:=B1.cell 6 rfl;have q7:=B1.cell 7 rfl;have q8:=B1.cell 8 rfl
  clear hW hb;go_wp2_with fail;refine mr (HB.out _ bw1) fun w2 hb=>?_;have bw2:=bg bw1 hb;clear hb bw1 q0 q1 q2 q3 q4 q5 q6 q7 q8 B1 HB;go_wp2_with fail
  have bw3:Below w.heap.size w ((w2.alloc (.cells #[.int .i64 (c:Nat),.int .u64 (o:Nat)] 165)).alloc (.cells #[.int .i64 (s:Nat),.int .i64 (p:Nat)] 149)):=(bw2.alloc bw2.size _).alloc (by have:=bw2.size;simp;omega) _
  generalize (w2.alloc (.cells #[.int .i64 (c:Nat),.int .u64 (o:Nat)] 165)).alloc (.cells #[.int .i64 (s:Nat),.int .i64 (p:Nat)] 149)=U at *;refine mr (HW.out _) fun w4 hb=>?_
  have bw4:=bg bw3 hb;clear hb bw3 HW;go_wp2;go_ret2;exact⟨ret_pair2 (congrArg Value.bool HE.out) rfl,bw4⟩
theorem rank_k8(cs:List Value)(a:RA8)(bit:Bool)(i:Int)(w:World)(h:KI8 w cs a)(hi:I64 i):
  Qq 121 #[.agg cs.toArray,.bool bit,.int .i64 i] w (.tuple #[.int .i64 (grN (kOk8 a) (kBN8 a) (kBX8 a) bit i),.int .i64 (grE (kOk8 a) (kBN8 a) i)]):=by
 have C:=fun(w0:World) (hb:Below w.heap.size w w0)=>qcheck_c cs a w0 (h.keep hb);cases hk:kOk8 a with
 | false=>
  rw[hk]at C;have CH:Hid (Qz w 85 #[.agg cs.toArray] (.bool false)):=C
  show Calls _ _ _ _ fun e w'=>e=.returned (.tuple #[.int .i64 0,.int .i64 2])∧Below w.heap.size w w';clear C hk;obtain⟨⟨ao,cap,qo,dap,so,sc,tO,tc,rfl,_⟩,_⟩:=h;obtain⟨N,k,V,M,xs,L,ys,S,T⟩:=a
  dsimp only at *
  obtain⟨W,hW⟩:∃W,W=w.alloc (.cells #[.int .i64 N,.int .i64 k,.int .i64 V,.int .i64 M,.slice ao xs.length cap,.int .i64 L,.slice qo ys.length dap,.slice so S.length sc,.slice tO T.length tc] 41):=⟨_,rfl⟩
  have bW:=yb1 hW;go_enter Tryz.func121,Tryz.ntmps121;go_wp2_with fail;rw[←hW];refine mr (CH.out _ bW) fun w1 hb=>?_;have bw1:=bg bW hb;clear hW hb;go_wp2;go_ret2;exact⟨rfl,bw1⟩
 | true=>
 rw[hk]at C;have CH:Hid (Qz w 85 #[.agg cs.toArray] (.bool true)):=C;obtain⟨m,eN,v⟩:=ok_kv a hk;have hm:=v.le
 have vN:=v.nN;clear C hk;rw[eN];generalize kBX8 a=Y at *;have ga:grE true (m:Int) i=if i<0∨(m:Int)<i then 3 else 0:=rfl
 by_cases hr:i<0∨(m:Int)<i
 ·have gb:grN true (m:Int) Y bit i=0:=by unfold grN;rw[ga,if_pos hr];rfl
  rw[ga,gb,if_pos hr];clear v ga gb;obtain⟨⟨ao,cap,qo,dap,so,sc,tO,tc,rfl,_⟩,_⟩:=h;obtain⟨N,k,V,M,xs,L,ys,S,T⟩:=a;dsimp only at *;subst vN
  obtain⟨W,hW⟩:∃W,W=w.alloc (.cells #[.int .i64 (m:Int),.int .i64 k,.int .i64 V,.int .i64 M,.slice ao xs.length cap,.int .i64 L,.slice qo ys.length dap,.slice so S.length sc,.slice tO T.length tc] 41):=⟨_,rfl⟩
  have bW:=yb1 hW;have B1:=yc1 hW;go_enter Tryz.func121,Tryz.ntmps121;go_wp2_with fail;rw[←hW];refine mr (CH.out _ bW) fun w1 hb=>?_;have bw1:=bg bW hb;have q0:=(B1.kept hb).cell 0 rfl
  clear hW hb;by_cases h0:i<0
  ·go_wp2;go_ret2;exact⟨rfl,bw1⟩
  ·have h1:(m:Int)<i:=by omega
   go_wp2;go_ret2;exact⟨rfl,bw1⟩
 ·obtain⟨n,rfl⟩:=Int.eq_ofNat_of_zero_le (show 0≤i by omega);have hn:n≤m:=by omega
  have gb:grN true (m:Int) Y bit (n:Int)=(cB Y bit n:Nat):=by unfold grN;rw[ga,if_neg hr,if_pos rfl,Int.toNat_natCast]
  rw[ga,gb,if_neg hr];have h0:¬(n:Int)<0:=by omega
  have h1:¬(m:Int)<(n:Int):=by omega
  have HB:Hid (Qz w 135 #[.agg cs.toArray,.bool bit,.int .i64 (n:Int)] (.int .i64 (cB Y bit n:Nat))):=fun w0 hb=>qcount_c cs a m n Y bit w0 (h.keep hb) v hn
  clear v ga gb hr;generalize cB Y bit n=R at *;obtain⟨⟨ao,cap,qo,dap,so,sc,tO,tc,rfl,_⟩,_⟩:=h;obtain⟨N,k,V,M,xs,L,ys,S,T⟩:=a;dsimp only at *;subst vN
  obtain⟨W,hW⟩:∃W,W=w.alloc (.cells #[.int .i64 (m:Int),.int .i64 k,.int .i64 V,.int .i64 M,.slice ao xs.length cap,.int .i64 L,.slice qo ys.length dap,.slice so S.length sc,.slice tO T.length tc] 41):=⟨_,rfl⟩
  have bW:=yb1 hW;have B1:=yc1 hW;go_enter Tryz.func121,Tryz.ntmps121;go_wp2_with fail;rw[←hW];refine mr (CH.out _ bW) fun w1 hb=>?_;have bw1:=bg bW hb;replace B1:=B1.kept hb
  have q0:=B1.cell 0 rfl;have q1:=B1.cell 1 rfl;have q2:=B1.cell 2 rfl;have q3:=B1.cell 3 rfl;have q4:=B1.cell 4 rfl;have q5:=B1.cell 5 rfl;have q6:=B1.cell 6 rfl;have q7:=B1.cell 7 rfl;have q8:=B1.cell 8 rfl
  clear hW hb;go_wp2_with fail;refine mr (HB.out _ bw1) fun w2 hb=>?_;have bw2:=bg bw1 hb;clear hb bw1 q0 q1 q2 q3 q4 q5 q6 q7 q8 B1 HB;go_wp2;go_ret2;exact⟨rfl,bw2⟩
theorem size_k8(cs:List Value)(a:RA8)(w:World)(h:KI8 w cs a):
  Qq 74 #[.agg cs.toArray] w (.int .i64 (kZ8 a)):=by
 have C:=fun(w0:World) (hb:Below w.heap.size w w0)=>qcheck_c cs a w0 (h.keep hb);obtain⟨⟨ao,cap,qo,dap,so,sc,tO,tc,rfl,_⟩,_,_,sl,tl⟩:=h;obtain⟨N,k,V,M,xs,L,ys,S,T⟩:=a;dsimp only at *
 obtain⟨Z,hZ⟩:∃Z,Hid (Z=kZ8 ⟨N,k,V,M,xs,L,ys,S,T⟩):=⟨_,rfl⟩;rw[←hZ.out]
 obtain⟨W,hW⟩:∃W,W=w.alloc (.cells #[.int .i64 N,.int .i64 k,.int .i64 V,.int .i64 M,.slice ao xs.length cap,.int .i64 L,.slice qo ys.length dap,.slice so S.length sc,.slice tO T.length tc] 41):=⟨_,rfl⟩
 have bW:=yb1 hW;have B1:=yc1 hW
 have CH:Hid (Qz w 85 #[.agg #[.int .i64 N,.int .i64 k,.int .i64 V,.int .i64 M,.slice ao xs.length cap,.int .i64 L,.slice qo ys.length dap,.slice so S.length sc,.slice tO T.length tc]] (.bool (kOk8 ⟨N,k,V,M,xs,L,ys,S,T⟩))):=C
 clear C;cases hk:kOk8 ⟨N,k,V,M,xs,L,ys,S,T⟩with
 | false=>
  rw[hk]at CH
  have E:Hid (Z=0):=by
   show Z=0;rw[hZ.out];unfold kZ8 rzN;rw[show rOk N k V M xs L ys S T=false from hk];rfl
  clear hk hZ;go_enter Tryz.func74,Tryz.ntmps74;go_wp2_with fail;rw[←hW];refine mr (CH.out _ bW) fun w1 hb=>?_;have bw1:=bg bW hb;clear hW;go_wp2;go_ret;rw[E.out];exact⟨rfl,bw1⟩
 | true=>
  rw[hk]at CH
  have E:Hid (Z=M+L+64*(S.length:Int)):=by
   show Z=_;rw[hZ.out];unfold kZ8 rzN;rw[show rOk N k V M xs L ys S T=true from hk];rfl
  obtain⟨_,i2,i3,_⟩:=rOk_out N k V M xs L ys S T hk;obtain⟨_,_,_,_,_,m1,m2,_⟩:=ichk_out k V M xs i2;obtain⟨l1,l2,_,_⟩:=chk_out L ys i3;clear hk hZ;go_enter Tryz.func74,Tryz.ntmps74;go_wp2_with fail
  rw[←hW];refine mr (CH.out _ bW) fun w1 hb=>?_;have bw1:=bg bW hb;replace B1:=B1.kept hb;have r3:=B1.cell 3 rfl;have r5:=B1.cell 5 rfl;have r7:=B1.cell 7 rfl;clear hW hb;go_wp2;go_ret
  rw[E.out];exact⟨rfl,bw1⟩
theorem cnt_up(x:Nat):∀d r,cnt x r≤cnt x (r+d):=by
 intro d;induction d with
 | zero=>intro r;exact Nat.le_refl _
 | succ d ih=>intro r;have:=ih r;rw[show r+(d+1)=r+d+1 by omega,cnt];omega
theorem wbk_all(m:Nat)(X:List Nat)(bit:Bool)(i:Nat):cnt (wbk m X bit i) 15=obI bit 15 (bcl m (bitAt X) i):=by
 unfold wbk obI bcl;cases bit with
 | true=>rfl
 | false=>
  have hb:=blv_lt m (bitAt X) i;have f:=cnt_flip (blv m (bitAt X) i) 15 64 (by omega) (by omega);rw[show(2^64-1-blv m (bitAt X) i)=18446744073709551615-blv m (bitAt X) i by omega]at f;exact f
theorem next_blk(m:Nat)(X:List Nat)(bit:Bool)(k i:Nat)(hk:k<cB X bit m)(hi:i<nb m)(h:cB X bit (15*i)+obI bit 15 (bcl m (bitAt X) i)≤k):i+1<nb m∧cB X bit (15*(i+1))≤k:=by
 rw[←wbk_all m X bit i]at h;by_cases c:15*(i+1)≤m
 ·have w:=wbk_cnt m X bit i 15 (Nat.le_refl _) (by omega);rw[show 15*i+15=15*(i+1)by omega]at w;have h2:cB X bit (15*(i+1))≤k:=by omega
  refine⟨?_,h2⟩;have:15*(i+1)≠m:=by intro e;rw[e]at h2;omega
  unfold nb;omega
 ·have hr:m-15*i≤15:=by omega
  have hm:15*i≤m:=by unfold nb at hi;omega
  have w:=wbk_cnt m X bit i (m-15*i) hr (by omega);rw[show 15*i+(m-15*i)=m by omega]at w;have u:=cnt_up (wbk m X bit i) (15-(m-15*i)) (m-15*i)
  rw[show m-15*i+(15-(m-15*i))=15 by omega]at u;omega
theorem kv_cnt(a:RA8)(m:Nat)(Y:List Nat)(v:KV a m Y)(i:Nat)(hi:15*i≤m):cOn a.xs i=cntB Y (15*i):=by
 rw[v.on i (by unfold nb;omega)];exact bon_cnt m Y i hi
theorem gN_le(m g:Nat)(h:g<gN m):120*g≤m:=by
 by_cases c:g=0
 ·omega
 ·have:=gN_in m g h c;unfold nb at this;omega
theorem qsearch_c(n:Nat)(hn:n≤1048576)(c1 c2 c3:Addr)(p:Nat→Bool)(w:World)
  (hf:Hid (∀(i:Nat) w0,i<n→Below w.heap.size w w0→Qq 185 #[.int .i64 i,.pointer (some c1),.pointer (some c2),.pointer (some c3)] w0 (.bool (p i)))) (hp:Hid (∀i j,i≤j→p i=true→p j=true)):
  Calls Tryz.prog 181 #[.int .i64 n,.func (.func 185) #[] #[.pointer (some c1),.pointer (some c2),.pointer (some c3)]] w fun e w'=>∃j:Nat,e=.returned (.int .i64 j)∧j≤n∧(∀i,i<j→p i=false)∧(∀i,j≤i→i<n→p i=true)∧Below w.heap.size w w':=by
 go_enter Tryz.func181,Tryz.ntmps181;go_wp2
 go_loopw [5,6] (fun s t wr=>∃i j:Nat,i≤j∧j≤n∧s=.int .i64 i∧t=.int .i64 j∧Hid (∀q,q<i→p q=false)∧Hid (∀q,j≤q→q<n→p q=true)∧Below w.heap.size w wr) (fun s t _=>(intOf t).toNat-(intOf s).toNat)
 case atStart=>exact⟨0,n,by omega,by omega,rfl,rfl,fun q hq=>absurd hq (by omega),fun q h1 h2=>absurd h1 (by omega),Below.refl _ _⟩
 case round=>
  obtain⟨i,j,hij,hj,rfl,rfl,H1,H2,hw⟩:=hrel;by_cases hlt:i<j
  ·have hlt2:(i:Int)<(j:Int):=by omega
   have hm:(((i+j)/2:Nat):Int)=((i:Int)+(j:Int))/2:=by omega
   have C:Hid (Qq 185 #[.int .i64 (((i:Int)+(j:Int))/2),.pointer (some c1),.pointer (some c2),.pointer (some c3)] wr (.bool (p ((i+j)/2)))):=by
    have:=hf.out ((i+j)/2) wr (by omega) hw;rw[hm]at this;exact this
   have mu:IntKind.i64.wrap (((i:Int)+(j:Int))/2+1)=((i:Int)+(j:Int))/2+1:=by rw[IntKind.wrap_i64];omega
   clear hf;go_wp2_with fail;refine C.out.mono ?_;rintro e w1 ⟨rfl,hb⟩;have hw1:=bg hw hb;clear hb C;cases hq:p ((i+j)/2)with
   | true=>
    go_wp2;refine⟨⟨i,(i+j)/2,by omega,by omega,rfl,by rw[hm],H1,?_,hw1⟩,by simp only[intOf];omega⟩;intro q h1 h2;exact hp.out _ _ h1 hq
   | false=>
    go_wp2;refine⟨⟨(i+j)/2+1,j,by omega,by omega,by rw[←hm];rfl,rfl,?_,H2,hw1⟩,by simp only[intOf];omega⟩;intro q h1;cases hq2:p q with
    | false=>rfl
    | true=>
     have:=hp.out q ((i+j)/2) (by omega) hq2;rw[hq]at this;exact this.symm
  ·have hlt2:¬(i:Int)<(j:Int):=by omega
   go_wp2;go_ret;exact⟨i,rfl,by omega,H1.out,fun q h1 h2=>H2.out q (by omega) h2,hw⟩
theorem qsought1_c(cs:List Value)(a:RA8)(m i k gb gx gk:Nat)(Y:List Nat)(bit:Bool)(w:World)(h:KI8 w cs a)(v:KV a m Y)(hi:i<gN m)(hk:k≤1048576)(c1:Cel w gb [.bool bit] 4)(c2:Cel w gx cs 41)(c3:Cel w gk [.int .i64 (k:Nat)] 3):
  Qq 185 #[.int .i64 i,.pointer (some ⟨gb,0,none⟩),.pointer (some ⟨gx,0,none⟩),.pointer (some ⟨gk,0,none⟩)] w (.bool (decide (k<cB Y bit (120*i)))):=by
 have hm:=v.le;have him:=gN_le m i hi;have es:=v.gs i hi;rw[kv_cnt a m Y v (8*i) (by omega),show 15*(8*i)=120*i by omega]at es
 have HO:Hid (∀w0,Qx 184 #[.bool bit,.int .i64 ((120*i:Nat):Int),.int .i64 (cntB Y (120*i):Nat)] w0 (.int .i64 (cB Y bit (120*i):Nat))):=fun w0=>qofBit_c bit (120*i) (cntB Y (120*i)) (cntB_le _ _) (by omega) w0
 have sl:=v.sl;obtain⟨⟨ao,cap,qo,dap,so,sc,tO,tc,rfl,_,_,_,_,_,_,_,a7,_⟩,_⟩:=h;obtain⟨N,kk,V,M,xs,L,ys,S,T⟩:=a;dsimp only at *;clear v;obtain⟨b1,o1,rfl,hb1,hc1⟩:=a7 (by omega)
 have e1:=hc1 i (by omega);rw[es]at e1;have i1:(i:Int)<(S.length:Int):=by omega
 have il:i≤1048576:=by omega
 clear sl hc1 es;generalize cntB Y (120*i)=cn at *;generalize cB Y bit (120*i)=res at *
 have u1:Hid (IntKind.i64.wrap (IntKind.i64.wrap ((i:Int)*8)*15)=((120*i:Nat):Int)):=by
  have w1:IntKind.i64.wrap ((i:Int)*8)=(i:Int)*8:=by rw[IntKind.wrap_i64];omega
  have w2:IntKind.i64.wrap ((i:Int)*8*15)=((120*i:Nat):Int):=by rw[IntKind.wrap_i64];omega
  show IntKind.i64.wrap (IntKind.i64.wrap ((i:Int)*8)*15)=((120*i:Nat):Int);rw[w1,w2]
 go_enter Tryz.func185,Tryz.ntmps185;go_wp2
 refine region_g [] (fun w'=>Cel w' gb [.bool bit] 4∧Cel w' gx [.int .i64 N,.int .i64 kk,.int .i64 V,.int .i64 M,.slice ao xs.length cap,.int .i64 L,.slice qo ys.length dap,.slice (some ⟨b1,o1,none⟩) S.length sc,.slice tO T.length tc] 41∧Cel w' gk [.int .i64 (k:Nat)] 3∧w'.cell? ⟨b1,o1+i,none⟩=some (.int .i64 (cn:Nat))) (by kernel_rfl) ?_
 have hS:Cel w.drew gb [.bool bit] 4∧Cel w.drew gx [.int .i64 N,.int .i64 kk,.int .i64 V,.int .i64 M,.slice ao xs.length cap,.int .i64 L,.slice qo ys.length dap,.slice (some ⟨b1,o1,none⟩) S.length sc,.slice tO T.length tc] 41∧Cel w.drew gk [.int .i64 (k:Nat)] 3∧w.drew.cell? ⟨b1,o1+i,none⟩=some (.int .i64 (cn:Nat)):=⟨c1,c2,c3,e1⟩
 have bV:Below w.heap.size w w.drew:=(Below.refl _ _).drew;generalize w.drew=U at *;clear c1 c2 c3 e1;refine aF 0 hS rfl (fun w0 h0=>by have c0:=h0.1.cell 0 rfl;go_simp;try with_reducible rfl) ?_
 refine aK 1 hS ?_;refine aK 2 hS ?_;refine aK 3 hS ?_;refine aK 4 hS ?_;refine aF 5 hS rfl (fun w0 h0=>by have c0:=h0.2.1.cell 7 rfl;go_simp;try with_reducible rfl) ?_;refine aK 6 hS ?_
 refine aK 7 hS ?_;refine aF 8 hS rfl (fun w0 h0=>by have c0:=h0.2.2.2;go_simp;try with_reducible rfl) ?_
 refine aF 10 hS rfl (fun w0 h0=>by have c0:=h0.2.2.1.cell 0 rfl;go_simp;try with_reducible rfl) ?_;refine aO 9 ?_;intro K hK;go_simp;rw[u1.out];refine(HO.out _).mono ?_;rintro e w2 ⟨rfl,rfl⟩
 refine hK.out _ _ (fun _=>hS) ?_;clear hK K;try simp only[Act.put,yq0,yq1,yq2,yq3,yq4,yq5]
 refine aK 11 hS ?_;refine aK 12 hS ?_;refine AnyG.done (by kernel_rfl) ?_ _;go_wp2;go_ret;exact⟨ret_bool (by simp),bV⟩
theorem wbk_lt(m:Nat)(X:List Nat)(bit:Bool)(i:Nat):wbk m X bit i<18446744073709551616:=by
 have:=blv_lt m (bitAt X) i;unfold wbk;split<;>omega
theorem flip15(x:Nat)(h:x<18446744073709551616):Go.bits .xor .u64 18446744073709551615 (x:Int)=((18446744073709551615-x:Nat):Int):=by
 rw[flip_nat _ (by omega) (by omega),Int.toNat_natCast]
theorem qsought2_c(a:RA8)(m i k gb gk gp lo hi:Nat)(Y:List Nat)(bit:Bool)(w:World)(v:KV a m Y)(hi2:i<nb m)(hk:k<cB Y bit m)(hle:cB Y bit (15*i)≤k)(c1:Cel w gb [.bool bit] 4)(c2:Cel w gk [.int .i64 (k:Nat)] 3)(c3:Cel w gp [.int .i64 0] 3)(n1:gp≠gb)(n2:gp≠gk)(l1:lo≤gp)(l2:gp<hi)(l3:hi≤w.heap.size):
  Calls Tryz.prog 186 #[.int .i64 i,.agg #[.int .i64 (cls a.xs i:Nat),.int .u64 (cOff a.L a.ys a.xs i:Nat)],.agg #[.int .i64 (cOn a.xs i:Nat),.int .i64 (cAt a.xs i:Nat)],.pointer (some ⟨gb,0,none⟩),.pointer (some ⟨gk,0,none⟩),.pointer (some ⟨gp,0,none⟩)] w
   fun e w'=>∃b:Bool,e=.returned (.bool b)∧(b=true→(i+1<nb m∧cB Y bit (15*(i+1))≤k)∧Cel w' gp [.int .i64 0] 3)∧(b=false→∃q,pselO (m:Int) Y bit (k:Int)=some q∧Cel w' gp [.int .i64 (q:Nat)] 3)∧Cel w' gb [.bool bit] 4∧Cel w' gk [.int .i64 (k:Nat)] 3∧Fr8 lo hi w w':=by
 have hm:=v.le;have him:15*i≤m:=by unfold nb at hi2;omega
 have eo:=kv_cnt a m Y v i him;have cl:=cls_le a.xs i;have NX:=next_blk m Y bit k i hk hi2;have SO:=sought_blk m Y bit k i hk hi2 hle;have kb:=cB_le Y bit m;rw[←v.cl i hi2]at NX SO
 have HO1:Hid (∀w0,Qx 184 #[.bool bit,.int .i64 (15*(i:Int)),.int .i64 (cOn a.xs i:Nat)] w0 (.int .i64 (cB Y bit (15*i):Nat))):=by
  intro w0;rw[eo];have:=qofBit_c bit (15*i) (cntB Y (15*i)) (cntB_le _ _) (by omega) w0;rw[show((15*i:Nat):Int)=15*(i:Int)by omega]at this;exact this
 have HO2:Hid (∀w0,Qx 184 #[.bool bit,.int .i64 15,.int .i64 (cls a.xs i:Nat)] w0 (.int .i64 (obI bit 15 (cls a.xs i):Nat))):=fun w0=>qofBit_c bit 15 (cls a.xs i) cl (by omega) w0
 have HW:Hid (∀w0,Qq 118 #[.agg #[.int .i64 (cls a.xs i:Nat),.int .u64 (cOff a.L a.ys a.xs i:Nat)]] w0 (.int .u64 (blv m (bitAt Y) i:Nat))):=by
  intro w0;have:=qwordOf_c (cls a.xs i) (cOff a.L a.ys a.xs i) cl (v.off i hi2) w0;rw[v.wd i hi2]at this;exact this
 have HSe:Hid (∀w0,Qx 183 #[.int .u64 (wbk m Y bit i:Nat),.int .i64 ((k:Int)-(cB Y bit (15*i):Nat))] w0 (.int .i64 (selI (wbk m Y bit i:Nat) ((k:Int)-(cB Y bit (15*i):Nat))))):=fun w0=>select_c _ _ (by omega) (by have:=wbk_lt m Y bit i;omega) w0
 have HFl:Hid (bit=false→Go.bits .xor .u64 18446744073709551615 (blv m (bitAt Y) i:Nat)=((wbk m Y bit i:Nat):Int)):=by
  intro hb;rw[flip15 _ (blv_lt64 _ _ _),hb];rfl
 have HTr:Hid (bit=true→wbk m Y bit i=blv m (bitAt Y) i):=by
  intro hb;rw[hb];rfl
 have ob:obI bit 15 (cls a.xs i)≤15:=by unfold obI;split<;>omega
 have ib:i≤69906:=by have:=nb_le m hm;omega
 have blb:=cB_le Y bit (15*i);clear eo v hk;generalize cls a.xs i=c at *;generalize cOff a.L a.ys a.xs i=o at *;generalize cOn a.xs i=s at *;generalize cAt a.xs i=p at *;generalize obI bit 15 c=ob15 at *
 generalize wbk m Y bit i=wk at *;generalize blv m (bitAt Y) i=bw at *;obtain⟨bf,hbf⟩:∃bf,bf=cB Y bit (15*i):=⟨_,rfl⟩;rw[←hbf]at NX SO HO1 HSe hle blb
 have HP:Hid (∃q:Nat,pselO (m:Int) Y bit (k:Int)=some q∨True):=⟨0,.inr trivial⟩;clear hbf HP
 obtain⟨W,hW⟩:∃W,W=(w.alloc (.cells #[.int .i64 (c:Nat),.int .u64 (o:Nat)] 165)).alloc (.cells #[.int .i64 (s:Nat),.int .i64 (p:Nat)] 149):=⟨_,rfl⟩;have bW:=yb2 hW;have B1:=yc3 hW;have B2:=yc2 hW
 have F1:Fr8 lo hi w W:=Fr8.of bW (by omega);have t1:=c1.cell 0 rfl;have lt1:=c1.lt;replace c1:=c1.kept bW;replace c2:=c2.kept bW;replace c3:=c3.kept bW
 have u1:IntKind.i64.wrap ((i:Int)*15)=((15*i:Nat):Int):=by rw[IntKind.wrap_i64];omega
 go_enter Tryz.func186,Tryz.ntmps186;go_wp2_with fail;rw[←hW];refine(HO1.out _).mono ?_;rintro e w1 ⟨rfl,rfl⟩;clear HO1 u1 hW t1;go_wp2
 refine region_g [] (fun w'=>Cel w' w.heap.size [.int .i64 (c:Nat),.int .u64 (o:Nat)] 165∧Cel w' gb [.bool bit] 4∧Cel w' gk [.int .i64 (k:Nat)] 3) (by kernel_rfl) ?_
 have hS:Cel w1.drew w.heap.size [.int .i64 (c:Nat),.int .u64 (o:Nat)] 165∧Cel w1.drew gb [.bool bit] 4∧Cel w1.drew gk [.int .i64 (k:Nat)] 3:=⟨B1,c1,c2⟩;replace c3:Cel w1.drew gp [.int .i64 0] 3:=c3
 replace F1:Fr8 lo hi w w1.drew:=F1.trans (Fr8.of (Below.refl _ _).drew (by have:=bW.size;omega));have z1:w.heap.size≤w1.drew.heap.size:=bW.size;generalize w1.drew=U at *;clear B1 B2 c1 c2 bW
 by_cases hq:bf+ob15≤k
 ·have hd:decide ((bf:Int)+(ob15:Int)≤(k:Int))=true:=decide_eq_true (by omega);have hd2:IntKind.i64.wrap ((bf:Int)+(ob15:Int))=(bf:Int)+(ob15:Int):=by rw[IntKind.wrap_i64];omega
  refine aK 0 hS ?_;refine aF 1 hS rfl (fun w0 h0=>by have c0:=h0.2.1.cell 0 rfl;go_simp;try with_reducible rfl) ?_;refine aK 2 hS ?_
  refine aF 3 hS rfl (fun w0 h0=>by have c0:=h0.1.cell 0 rfl;go_simp;try with_reducible rfl) ?_;refine aF 6 hS rfl (fun w0 h0=>by have c0:=h0.2.2.cell 0 rfl;go_simp;try with_reducible rfl) ?_
  refine aO 4 ?_;intro K hK;go_simp;refine(HO2.out _).mono ?_;rintro e w2 ⟨rfl,rfl⟩;refine hK.out _ _ (fun _=>hS) ?_;clear hK K;try simp only[Act.put,yq0,yq1,yq2,yq3,yq4,yq5]
  refine aK 5 hS ?_;refine aK 7 hS ?_;refine AnyG.done (by kernel_rfl) ?_ _;have HN:=NX hq;clear HW HSe HFl HTr SO NX;go_wp2;go_ret;exact⟨true,rfl,fun _=>⟨HN,c3⟩,nofun,hS.2.1,hS.2.2,F1⟩
 ·have hd:decide ((bf:Int)+(ob15:Int)≤(k:Int))=false:=decide_eq_false (by omega);have hd2:IntKind.i64.wrap ((bf:Int)+(ob15:Int))=(bf:Int)+(ob15:Int):=by rw[IntKind.wrap_i64];omega
  obtain⟨r,hr,hsel,hps⟩:=SO (by omega);rw[hsel]at HSe;refine aK 0 hS ?_;refine aF 1 hS rfl (fun w0 h0=>by have c0:=h0.2.1.cell 0 rfl;go_simp;try with_reducible rfl) ?_;refine aK 2 hS ?_
  refine aF 3 hS rfl (fun w0 h0=>by have c0:=h0.1.cell 0 rfl;go_simp;try with_reducible rfl) ?_;refine aF 6 hS rfl (fun w0 h0=>by have c0:=h0.2.2.cell 0 rfl;go_simp;try with_reducible rfl) ?_
  refine aO 4 ?_;intro K hK;go_simp;refine(HO2.out _).mono ?_;rintro e w2 ⟨rfl,rfl⟩;refine hK.out _ _ (fun _=>hS) ?_;clear hK K;try simp only[Act.put,yq0,yq1,yq2,yq3,yq4,yq5]
  refine aK 5 hS ?_;refine aK 7 hS ?_;refine AnyG.done (by kernel_rfl) ?_ _;clear NX hd hd2 SO hsel;have b0:=hS.1.cell 0 rfl;have b1:=hS.1.cell 1 rfl;go_wp2_with fail;refine mr (HW.out _) fun w3 hb=>?_
  have hS3:=And.intro (hS.2.1.kept hb) (hS.2.2.kept hb);have F3:=F1.trans (Fr8.of hb (by omega));replace c3:=c3.kept hb;clear hb hS F1 b0 b1;have t0:=hS3.1.cell 0 rfl;have t1:=hS3.2.cell 0 rfl;have g0:=c3.cell 0 rfl
  have g1:=c3.frozen 0;cases bit with
  | true=>
   have HT:=HTr.out rfl;subst HT;clear HFl HTr HW;go_wp2_with fail;refine(HSe.out _).mono ?_;rintro e w4 ⟨rfl,rfl⟩;clear HSe t0 t1;go_wp2;go_ret;have ev:(i:Int)*15+(r:Int)=((15*i+r:Nat):Int):=by omega
   rw[ev];exact⟨false,rfl,nofun,fun _=>⟨15*i+r,hps,c3.set 0 _⟩,hS3.1.other (by show gb≠gp;omega) _,hS3.2.other (by show gk≠gp;omega) _,F3.trans (((Only.refl gp w4).set 0 _).fr l1 l2)⟩
  | false=>
   have HF:bits BinOp.xor IntKind.u64 IntKind.u64.max (bw:Int)=(wk:Int):=HFl.out rfl;clear HFl HTr HW;go_wp2_with fail;refine(HSe.out _).mono ?_;rintro e w4 ⟨rfl,rfl⟩;clear HSe t0 t1;go_wp2;go_ret
   have ev:(i:Int)*15+(r:Int)=((15*i+r:Nat):Int):=by omega
   rw[ev];exact⟨false,rfl,nofun,fun _=>⟨15*i+r,hps,c3.set 0 _⟩,hS3.1.other (by show gb≠gp;omega) _,hS3.2.other (by show gk≠gp;omega) _,F3.trans (((Only.refl gp w4).set 0 _).fr l1 l2)⟩
structure SInv (w0:World) (m k gb gk gp:Nat) (Y:List Nat) (bit:Bool) (i:Nat) (w:World):Prop where
 below:Below w0.heap.size w0 w
 lt:i<nb m
 le:cB Y bit (15*i)≤k
 c1:Cel w gb [.bool bit] 4
 c2:Cel w gk [.int .i64 (k:Nat)] 3
 c3:Cel w gp [.int .i64 0] 3
theorem SInv.keep{w0:World}{m k gb gk gp hi i:Nat}{Y:List Nat}{bit:Bool}{w w':World}(h:SInv w0 m k gb gk gp Y bit i w)(h0:w0.heap.size≤hi)(h1:gb<hi)(h2:gk<hi)(h3:gp<hi)(hb:Below hi w w'):SInv w0 m k gb gk gp Y bit i w':=
 ⟨h.below.trans (hb.mono h0),h.lt,h.le,h.c1.keep hb h1,h.c2.keep hb h2,h.c3.keep hb h3⟩
theorem qsought_c(cs:List Value)(a:RA8)(m k q:Nat)(Y:List Nat)(bit:Bool)(w:World)(h:KI8 w cs a)(v:KV a m Y)(hq:pselO (m:Int) Y bit (k:Int)=some q):
  Qq 136 #[.agg cs.toArray,.bool bit,.int .i64 k] w (.int .i64 (q:Nat)):=by
 have hm:=v.le
 have hk:k<cB Y bit m:=by
  have:=(psel_iff (m:Int) Y bit (k:Int)).1 (by rw[hq];rfl);rw[Int.toNat_natCast]at this;omega
 have hkm:=cB_le Y bit m;have hm0:0<nb m:=by unfold nb;omega
 have g8:gN m≤8739:=by have:=nb_le m hm;unfold gN;omega
 have g1:0<gN m:=by unfold gN;omega
 have HS:Hid (∀(gb gx gk:Nat) w1,Below w.heap.size w w1→Cel w1 gb [.bool bit] 4→Cel w1 gx cs 41→Cel w1 gk [.int .i64 (k:Nat)] 3→Calls Tryz.prog 181 #[.int .i64 (gN m:Nat),.func (.func 185) #[] #[.pointer (some ⟨gb,0,none⟩),.pointer (some ⟨gx,0,none⟩),.pointer (some ⟨gk,0,none⟩)]] w1 fun e w'=>∃g:Nat,e=.returned (.int .i64 ((g+1:Nat):Int))∧g<gN m∧cB Y bit (120*g)≤k∧Below w1.heap.size w1 w'):=by
  intro gb gx gk w1 hb c1 c2 c3;refine(qsearch_c (gN m) (by omega) ⟨gb,0,none⟩ ⟨gx,0,none⟩ ⟨gk,0,none⟩ (fun i=>decide (k<cB Y bit (120*i))) w1 ?_ ?_).mono ?_
  ·intro i w2 hi hb2;exact qsought1_c cs a m i k gb gx gk Y bit w2 (h.keep (bg hb hb2)) v hi (by omega) (c1.kept hb2) (c2.kept hb2) (c3.kept hb2)
  ·intro i j hij hi;simp only[decide_eq_true_eq]at hi⊢;have:=cB_mono Y bit (120*i) (120*j-120*i);rw[show 120*i+(120*j-120*i)=120*j by omega]at this;omega
  ·rintro e w2 ⟨j,rfl,hj,h1,h2,hb2⟩
   have j0:j≠0:=by
    intro e;have:=h2 0 (by omega) g1;simp only[decide_eq_true_eq]at this;have:=cB_le Y bit (120*0);omega
   obtain⟨g,rfl⟩:∃g,j=g+1:=⟨j-1,by omega⟩;have:=h1 g (by omega);simp only[decide_eq_false_iff_not]at this;exact⟨g,rfl,by omega,by omega,hb2⟩
 have HA:Hid (∀(g gb gk gp:Nat) w1,g<gN m→cB Y bit (120*g)≤k→Below w.heap.size w w1→Cel w1 gb [.bool bit] 4→Cel w1 gk [.int .i64 (k:Nat)] 3→Cel w1 gp [.int .i64 0] 3→gp≠gb→gp≠gk→w.heap.size≤gp→Calls Tryz.prog 142 #[.agg cs.toArray,.int .i64 g,.func (.func 186) #[] #[.pointer (some ⟨gb,0,none⟩),.pointer (some ⟨gk,0,none⟩),.pointer (some ⟨gp,0,none⟩)]] w1 fun e w'=>∃r,e=.returned r∧Cel w' gp [.int .i64 (q:Nat)] 3∧Fr8 w.heap.size w1.heap.size w1 w'):=by
  intro g gb gk gp w1 hg hle hb c1 c2 c3 n1 n2 n3
  have hg8:8*g<nb m:=by
   by_cases c:g=0
   ·omega
   ·exact gN_in m g hg c
  refine(qalong_c cs a g (nb m) w.heap.size w1.heap.size 186 #[.pointer (some ⟨gb,0,none⟩),.pointer (some ⟨gk,0,none⟩),.pointer (some ⟨gp,0,none⟩)] (fun i w2=>SInv w m k gb gk gp Y bit i w2) (fun _ w2=>Cel w2 gp [.int .i64 (q:Nat)] 3) w1 v.nk v.nV v.ic (by omega) (by rw[v.sl];exact hg) (by rw[v.tl];exact hg) (v.gs _ hg) (v.gt _ hg) hb.size (Nat.le_refl _) ⟨hb,hg8,by rw[show 15*(8*g)=120*g by omega];exact hle,c1,c2,c3⟩ (fun i w2 hi=>h.keep hi.below) (fun i w2 w3 hi hb2=>hi.keep hb.size c1.lt c2.lt c3.lt hb2) (fun i w2 w3 hi hb2=>hi.keep hb2 c3.lt) ?cf ?st).mono ?_
  case cf=>
   intro args w2;kernel_rfl
  case st=>
   intro i w2 _ hin hse hi hw2;refine(qsought2_c a m i k gb gk gp w.heap.size w1.heap.size Y bit w2 v hin hk hi.le hi.c1 hi.c2 hi.c3 n1 n2 n3 c3.lt hw2).mono ?_;rintro e w3 ⟨b,rfl,h1,h2,d1,d2,fr⟩
   refine⟨b,rfl,fun hb=>?_,fun hb=>?_,fr⟩
   ·obtain⟨⟨a1,a2⟩,a3⟩:=h1 hb;exact⟨hi.below.trans fr.below,a1,a2,d1,d2,a3⟩
   ·obtain⟨q',e1,e2⟩:=h2 hb;rw[hq]at e1;obtain rfl:=Option.some.inj e1;exact e2
  ·rintro e w2 ⟨i,b,rfl,_,hi,h1,h2,fr⟩;cases b with
   | true=>
    obtain⟨rfl,hI⟩:=h1 rfl;exact absurd hI.lt (Nat.lt_irrefl _)
   | false=>
    obtain⟨hlt,h3⟩:=h2 rfl;rcases h3 with⟨h3,_⟩ | ⟨_,h4⟩
    ·exact absurd (v.se i hlt) h3
    ·exact⟨_,rfl,h4,fr⟩
 have hmf:∀(fn:Fn) (first cap:Array Value) (w:World),(Instr.makeFunc fn first cap).run Tryz.prog w=.ok (.func fn first cap) w:=fun _ _ _ _=>rfl;have sl:=v.sl;clear v
 obtain⟨⟨ao,cap,qo,dap,so,sc,tO,tc,rfl,_⟩,_⟩:=h;obtain⟨N,kk,V,M,xs,L,ys,S,T⟩:=a;dsimp only at *;rw[←sl]at HS HA;have lb:S.length≤8739:=by omega
 clear sl hq
 obtain⟨W,hW⟩:∃W,W=((w.alloc (.cells #[.int .i64 N,.int .i64 kk,.int .i64 V,.int .i64 M,.slice ao xs.length cap,.int .i64 L,.slice qo ys.length dap,.slice so S.length sc,.slice tO T.length tc] 41)).alloc (.cells #[.bool bit] 4)).alloc (.cells #[.int .i64 (k:Nat)] 3):=⟨_,rfl⟩
 have bW:Below w.heap.size w W:=by rw[hW];exact((below_alloc w _).alloc (by simp) _).alloc (by simp;omega) _
 have zW:W.heap.size=w.heap.size+3:=by rw[hW];simp
 have B1:Cel W w.heap.size [.int .i64 N,.int .i64 kk,.int .i64 V,.int .i64 M,.slice ao xs.length cap,.int .i64 L,.slice qo ys.length dap,.slice so S.length sc,.slice tO T.length tc] 41:=by rw[hW];exact((Cel.new w _ _).alloc _).alloc _
 have B2:Cel W (w.heap.size+1) [.bool bit] 4:=by rw[hW];exact(Cel.new2 w _ _ _).alloc _
 have B3:Cel W (w.heap.size+2) [.int .i64 (k:Nat)] 3:=by
  have:=Cel.new2 (w.alloc (.cells #[.int .i64 N,.int .i64 kk,.int .i64 V,.int .i64 M,.slice ao xs.length cap,.int .i64 L,.slice qo ys.length dap,.slice so S.length sc,.slice tO T.length tc] 41)) (.cells #[.bool bit] 4) [.int .i64 (k:Nat)] 3
  rw[hW];simpa using this
 go_enter Tryz.func136,Tryz.ntmps136;go_wp2_with fail;rw[←hW];refine(HS.out (w.heap.size+1) w.heap.size (w.heap.size+2) W bW B2 B1 B3).mono ?_;rintro e w1 ⟨g,rfl,hg,hle,hb⟩;have bw1:=bg bW hb
 have z1:=hb.size;replace B1:=B1.kept hb;replace B2:=B2.kept hb;replace B3:=B3.kept hb;clear hb hW HS bW;have q0:=B1.cell 0 rfl;have q1:=B1.cell 1 rfl;have q2:=B1.cell 2 rfl;have q3:=B1.cell 3 rfl
 have q4:=B1.cell 4 rfl;have q5:=B1.cell 5 rfl;have q6:=B1.cell 6 rfl;have q7:=B1.cell 7 rfl;have q8:=B1.cell 8 rfl;have l1:=B1.lt;obtain⟨W2,hW2⟩:∃W2,W2=w1.alloc (.cells #[.int .i64 0] 3):=⟨_,rfl⟩
 have hb2:Below w1.heap.size w1 W2:=by rw[hW2];exact below_alloc w1 _
 have B4:Cel W2 w1.heap.size [.int .i64 0] 3:=by rw[hW2];exact Cel.new w1 _ _
 have bw2:=bg bw1 hb2;replace B2:=B2.kept hb2;replace B3:=B3.kept hb2;go_wp2_with fail;rw[←hW2]
 refine(HA.out g (w.heap.size+1) (w.heap.size+1+1) w1.heap.size W2 hg hle bw2 B2 B3 B4 (by omega) (by omega) (by omega)).mono ?_;rintro e w3 ⟨r,rfl,d,fr⟩;have bw3:=bw2.trans fr.below;have d0:=d.cell 0 rfl
 clear q0 q1 q2 q3 q4 q5 q6 q7 q8 hW2 hb2 B1 B2 B3 B4 HA fr bw2;go_wp2;go_ret;exact⟨rfl,bw3⟩
theorem select_k8(cs:List Value)(a:RA8)(bit:Bool)(k:Int)(w:World)(h:KI8 w cs a)(hk2:I64 k):
  Qq 82 #[.agg cs.toArray,.bool bit,.int .i64 k] w (.tuple #[.int .i64 (gsX (kOk8 a) (kBN8 a) (kBX8 a) bit k),.int .i64 (gsE (kOk8 a) (kBN8 a) (kBX8 a) bit k)]):=by
 have C:=fun(w0:World) (hb:Below w.heap.size w w0)=>qcheck_c cs a w0 (h.keep hb);cases hk:kOk8 a with
 | false=>
  rw[hk]at C;have CH:Hid (Qz w 85 #[.agg cs.toArray] (.bool false)):=C
  show Calls _ _ _ _ fun e w'=>e=.returned (.tuple #[.int .i64 0,.int .i64 2])∧Below w.heap.size w w';clear C hk;obtain⟨⟨ao,cap,qo,dap,so,sc,tO,tc,rfl,_⟩,_⟩:=h;obtain⟨N,kk,V,M,xs,L,ys,S,T⟩:=a
  dsimp only at *
  obtain⟨W,hW⟩:∃W,W=w.alloc (.cells #[.int .i64 N,.int .i64 kk,.int .i64 V,.int .i64 M,.slice ao xs.length cap,.int .i64 L,.slice qo ys.length dap,.slice so S.length sc,.slice tO T.length tc] 41):=⟨_,rfl⟩
  have bW:=yb1 hW;go_enter Tryz.func82,Tryz.ntmps82;go_wp2_with fail;rw[←hW];refine mr (CH.out _ bW) fun w1 hb=>?_;have bw1:=bg bW hb;clear hW hb;go_wp2;go_ret2;exact⟨rfl,bw1⟩
 | true=>
 rw[hk]at C;have CH:Hid (Qz w 85 #[.agg cs.toArray] (.bool true)):=C;obtain⟨m,eN,v⟩:=ok_kv a hk;have hm:=v.le
 have vN:=v.nN;clear C hk;rw[eN];generalize kBX8 a=Y at *
 have HB:Hid (Qz w 135 #[.agg cs.toArray,.bool bit,.int .i64 (m:Int)] (.int .i64 (cB Y bit m:Nat))):=fun w0 hb=>qcount_c cs a m m Y bit w0 (h.keep hb) v (Nat.le_refl _)
 have HQ:Hid (∀(n q:Nat) w0,pselO (m:Int) Y bit (n:Int)=some q→Below w.heap.size w w0→Qq 136 #[.agg cs.toArray,.bool bit,.int .i64 (n:Int)] w0 (.int .i64 (q:Nat))):=fun n q w0 hq hb=>qsought_c cs a m n q Y bit w0 (h.keep hb) v hq
 have PI:=psel_iff (m:Int) Y bit k;rw[Int.toNat_natCast]at PI;have cb:=cB_le Y bit m;clear v;obtain⟨⟨ao,cap,qo,dap,so,sc,tO,tc,rfl,_⟩,_⟩:=h;obtain⟨N,kk,V,M,xs,L,ys,S,T⟩:=a;dsimp only at *;subst vN
 obtain⟨W,hW⟩:∃W,W=w.alloc (.cells #[.int .i64 (m:Int),.int .i64 kk,.int .i64 V,.int .i64 M,.slice ao xs.length cap,.int .i64 L,.slice qo ys.length dap,.slice so S.length sc,.slice tO T.length tc] 41):=⟨_,rfl⟩
 have bW:=yb1 hW;have B1:=yc1 hW;unfold gsX gsE;rw[if_pos rfl,if_pos rfl];cases hp:pselO (m:Int) Y bit k with
 | none=>
  have hn:¬(0≤k∧k<(cB Y bit m:Int)):=fun c=>by
   have:=PI.2 c;rw[hp]at this;cases this
  show Calls _ _ _ _ fun e w'=>e=.returned (.tuple #[.int .i64 0,.int .i64 3])∧Below w.heap.size w w';clear HQ PI hp;generalize cB Y bit m=cn at *;go_enter Tryz.func82,Tryz.ntmps82;go_wp2_with fail;rw[←hW]
  refine mr (CH.out _ bW) fun w1 hb=>?_;have bw1:=bg bW hb;replace B1:=B1.kept hb;have q0:=B1.cell 0 rfl;have q1:=B1.cell 1 rfl;have q2:=B1.cell 2 rfl;have q3:=B1.cell 3 rfl
  have q4:=B1.cell 4 rfl;have q5:=B1.cell 5 rfl;have q6:=B1.cell 6 rfl;have q7:=B1.cell 7 rfl;have q8:=B1.cell 8 rfl;clear hW hb;by_cases h0:k<0
  ·go_wp2;go_ret2;exact⟨rfl,bw1⟩
  ·have h1:(cn:Int)≤k:=by omega
   go_wp2_with fail;refine mr (HB.out _ bw1) fun w2 hb=>?_;have bw2:=bg bw1 hb;clear hb bw1 q0 q1 q2 q3 q4 q5 q6 q7 q8 B1 HB;go_wp2;go_ret2;exact⟨rfl,bw2⟩
 | some q=>
  have hn:=PI.1 (by rw[hp];rfl);obtain⟨n,rfl⟩:=Int.eq_ofNat_of_zero_le hn.1
  have HQ2:Hid (Qz w 136 #[.agg #[.int .i64 (m:Int),.int .i64 kk,.int .i64 V,.int .i64 M,.slice ao xs.length cap,.int .i64 L,.slice qo ys.length dap,.slice so S.length sc,.slice tO T.length tc],.bool bit,.int .i64 (n:Int)] (.int .i64 (q:Nat))):=fun w0 hb=>HQ.out n q w0 hp hb
  show Calls _ _ _ _ fun e w'=>e=.returned (.tuple #[.int .i64 (q:Nat),.int .i64 0])∧Below w.heap.size w w';clear HQ PI hp;generalize cB Y bit m=cn at *;have h0:¬(n:Int)<0:=by omega
  have h1:¬(cn:Int)≤(n:Int):=by omega
  go_enter Tryz.func82,Tryz.ntmps82;go_wp2_with fail;rw[←hW];refine mr (CH.out _ bW) fun w1 hb=>?_;have bw1:=bg bW hb;replace B1:=B1.kept hb;have q0:=B1.cell 0 rfl;have q1:=B1.cell 1 rfl
  have q2:=B1.cell 2 rfl;have q3:=B1.cell 3 rfl;have q4:=B1.cell 4 rfl;have q5:=B1.cell 5 rfl;have q6:=B1.cell 6 rfl;have q7:=B1.cell 7 rfl;have q8:=B1.cell 8 rfl;clear hW hb;go_wp2_with fail
  refine mr (HB.out _ bw1) fun w2 hb=>?_;have bw2:=bg bw1 hb;replace B1:=B1.kept hb;clear hb bw1 q0 q1 q2 q3 q4 q5 q6 q7 q8 HB;have q0:=B1.cell 0 rfl;have q1:=B1.cell 1 rfl
  have q2:=B1.cell 2 rfl;have q3:=B1.cell 3 rfl;have q4:=B1.cell 4 rfl;have q5:=B1.cell 5 rfl;have q6:=B1.cell 6 rfl;have q7:=B1.cell 7 rfl;have q8:=B1.cell 8 rfl;go_wp2_with fail;refine mr (HQ2.out _ bw2) fun w3 hb=>?_;have bw3:=bg bw2 hb;clear hb bw2 q0 q1 q2 q3 q4 q5 q6 q7 q8 HQ2 B1;go_wp2;go_ret2;exact⟨rfl,bw3⟩
def rowP(n:Nat)(F:Nat→Bool)(p:Nat):List Nat:=rowOf n fun j=>decide (j<p)&&F j
theorem length_rowP(n:Nat)(F:Nat→Bool)(p:Nat):(rowP n F p).length=(n+63)/64:=length_rowOf _ _
theorem fit_rowP(n:Nat)(F:Nat→Bool)(p:Nat):Fit (rowP n F p):=fit_rowOf _ _
theorem rowP_zero(n:Nat)(F:Nat→Bool):rowP n F 0=rowOf n fun _=>false:=rowOf_congr _ _ _ fun i _=>by simp
theorem rowP_room(n:Nat)(F:Nat→Bool)(p d x:Nat)(hd:d≤64)(hp:p+d≤n)(hx:x<2^d):Room (rowP n F p) p x:=
 room_of _ _ _ d hx hd (by rw[length_rowP];omega)
theorem rowP_put(n:Nat)(F:Nat→Bool)(p d x:Nat)(hd:d≤64)(hp:p+d≤n)(hx:x<2^d)(hb:∀t,t<d→x.testBit t=F (p+t)):putL (rowP n F p) p x=rowP n F (p+d):=by
 have hR:=rowP_room n F p d x hd hp hx;have h64:x<18446744073709551616:=Nat.lt_of_lt_of_le hx (Nat.pow_le_pow_right (n:=2) (j:=64) (by decide) hd)
 refine eq_rowOf n _ _ (fit_putL _ (fit_rowP _ _ _) _ _ h64 hR) (by rw[length_putL,length_rowP]) fun i _=>?_;rw[bitAt_putL _ _ _ h64 hR];unfold rowP;rw[bitAt_rowOf];by_cases c:i<p
 ·simp[c,show i<p+d by omega,show ¬p≤i by omega]
 ·by_cases e:i<p+d
  ·have:=hb (i-p) (by omega);rw[show p+(i-p)=i by omega]at this;simp[c,e,show p≤i by omega,this,show i<n by omega]
  ·have:x<2^(i-p):=Nat.lt_of_lt_of_le hx (Nat.pow_le_pow_right (by decide) (by omega));rw[Nat.testBit_lt_two_pow this];simp[c,e]
theorem blv_fit(m:Nat)(f:Nat→Bool)(i:Nat):blv m f i<2^(min 15 (m-15*i)):=by
 unfold blv
 have e:numOf 15 (fun k=>decide (15*i+k<m)&&f (15*i+k))=numOf (min 15 (m-15*i)) (fun k=>decide (15*i+k<m)&&f (15*i+k)):=by
  refine eq_numOf _ _ _ fun t=>?_;rw[testBit_numOf];by_cases c:t<min 15 (m-15*i)
  ·simp[c,show t<15 by omega]
  ·by_cases d:t<15
   ·simp[c,show ¬15*i+t<m by omega]
   ·simp[c,d]
 rw[e];exact numOf_lt _ _
theorem bits_step(m:Nat)(Y:List Nat)(i:Nat)(hi:i<nb m):Room (rowP m (bitAt Y) (15*i)) (15*i) (blv m (bitAt Y) i)∧putL (rowP m (bitAt Y) (15*i)) (15*i) (blv m (bitAt Y) i)=rowP m (bitAt Y) (15*(i+1)):=by
 have hm:15*i<m:=by unfold nb at hi;omega
 have hx:=blv_fit m (bitAt Y) i;refine⟨rowP_room m _ _ (min 15 (m-15*i)) _ (by omega) (by omega) hx,?_⟩;rw[rowP_put m (bitAt Y) (15*i) (min 15 (m-15*i)) _ (by omega) (by omega) hx fun t ht=>?_]
 ·refine rowOf_congr _ _ _ fun j hj=>?_;by_cases c:j<15*(i+1)
  ·simp[c,show j<15*i+min 15 (m-15*i)by omega]
  ·simp[c,show ¬j<15*i+min 15 (m-15*i)by omega]
 ·unfold blv;rw[testBit_numOf];simp[show t<15 by omega,show 15*i+t<m by omega]
theorem bits_end(m:Nat)(Y:List Nat)(hf:Fit Y)(hk:chk (m:Int) Y=true):rowP m (bitAt Y) (15*nb m)=Y:=by
 rw[←row_back m Y hf hk];refine rowOf_congr _ _ _ fun j hj=>?_;rw[row_back m Y hf hk];simp[show j<15*nb m by unfold nb;omega]
theorem Turned.fr{g lo hi:Nat}{w w':World}(h:Turned g w w')(h1:lo≤g)(h2:g<hi):Fr8 lo hi w w':=⟨h.below h1,fun b hb _=>h.block b (by omega)⟩
theorem Turned.cel{g b:Nat}{w w':World}{cs:List Value}{T:TypeId}(h:Turned g w w')(hc:Cel w b cs T)(hb:b≠g):Cel w' b cs T:=(h.block b hb).trans hc
theorem qbits1_c(a:RA8)(m i n gr gw lo hi:Nat)(Y:List Nat)(w:World)(v:KV a m Y)(hi2:i<nb m)(hn:n=(m+63)/64)(c1:Cel w gr [.int .i64 (m:Nat),.slice (some ⟨gw,0,none⟩) n n] 33)(c2:Own w gw (rowP m (bitAt Y) (15*i)))(l1:lo≤gw)(l2:gw<hi)(l3:hi≤w.heap.size)(l4:gr≠gw):
  Calls Tryz.prog 148 #[.int .i64 i,.agg #[.int .i64 (cls a.xs i:Nat),.int .u64 (cOff a.L a.ys a.xs i:Nat)],.agg #[.int .i64 (cOn a.xs i:Nat),.int .i64 (cAt a.xs i:Nat)],.pointer (some ⟨gr,0,none⟩)] w
   fun e w'=>e=.returned (.bool true)∧Own w' gw (rowP m (bitAt Y) (15*(i+1)))∧Fr8 lo hi w w'∧(∀b,b≠gw→b<w.heap.size→w'.heap[b]?=w.heap[b]?):=by
 have hm:=v.le;have him:15*i≤m:=by unfold nb at hi2;omega
 have cl:=cls_le a.xs i
 have HW:Hid (∀w0,Qq 118 #[.agg #[.int .i64 (cls a.xs i:Nat),.int .u64 (cOff a.L a.ys a.xs i:Nat)]] w0 (.int .u64 (blv m (bitAt Y) i:Nat))):=by
  intro w0;have:=qwordOf_c (cls a.xs i) (cOff a.L a.ys a.xs i) cl (v.off i hi2) w0;rw[v.wd i hi2]at this;exact this
 obtain⟨st1,st2⟩:=bits_step m Y i hi2
 have HL:Hid (∀w0,Own w0 gw (rowP m (bitAt Y) (15*i))→Calls Tryz.prog 149 #[.slice (some ⟨gw,0,none⟩) n n,.int .i64 ((15*i:Nat):Int),.int .u64 (blv m (bitAt Y) i:Nat)] w0 fun e w'=>e=.returned (.tuple #[])∧Own w' gw (rowP m (bitAt Y) (15*(i+1)))∧Turned gw w0 w'):=by
  intro w0 h0;have:=qlay_l (rowP m (bitAt Y) (15*i)) n gw n (15*i) (blv m (bitAt Y) i) w0 (by rw[length_rowP,hn]) h0 (by omega) (fit_rowP _ _ _) (blv_lt64 _ _ _) st1;rw[st2]at this;exact this
 have u1:Hid (IntKind.i64.wrap ((i:Int)*15)=((15*i:Nat):Int)):=by show _=_;rw[IntKind.wrap_i64];omega
 have ib:i≤69906:=by have:=nb_le m hm;omega
 clear v st1 st2 hn;generalize cls a.xs i=c at *;generalize cOff a.L a.ys a.xs i=o at *;generalize cOn a.xs i=s at *;generalize cAt a.xs i=p at *;generalize blv m (bitAt Y) i=bw at *
 generalize rowP m (bitAt Y) (15*(i+1))=R2 at *;generalize rowP m (bitAt Y) (15*i)=R1 at *
 obtain⟨W,hW⟩:∃W,W=(w.alloc (.cells #[.int .i64 (c:Nat),.int .u64 (o:Nat)] 165)).alloc (.cells #[.int .i64 (s:Nat),.int .i64 (p:Nat)] 149):=⟨_,rfl⟩;have bW:=yb2 hW;have B1:=yc3 hW
 have F1:Fr8 lo hi w W:=Fr8.of bW (by omega);have G1:∀b,b<w.heap.size→W.heap[b]?=w.heap[b]?:=fun b hb=>bW.block b hb;replace c1:=c1.kept bW;replace c2:=c2.keep bW;have z1:=bW.size;clear bW
 go_enter Tryz.func148,Tryz.ntmps148;go_wp2;rw[←hW];clear hW
 refine region_g [] (fun w'=>Cel w' w.heap.size [.int .i64 (c:Nat),.int .u64 (o:Nat)] 165∧Cel w' gr [.int .i64 (m:Nat),.slice (some ⟨gw,0,none⟩) n n] 33) (by kernel_rfl) ?_
 have hS:Cel W.drew w.heap.size [.int .i64 (c:Nat),.int .u64 (o:Nat)] 165∧Cel W.drew gr [.int .i64 (m:Nat),.slice (some ⟨gw,0,none⟩) n n] 33:=⟨B1,c1⟩;replace c2:Own W.drew gw R1:=c2
 replace F1:Fr8 lo hi w W.drew:=F1.trans (Fr8.of (Below.refl _ _).drew (by omega));replace G1:∀b,b<w.heap.size→W.drew.heap[b]?=w.heap[b]?:=G1;have z2:w.heap.size≤W.drew.heap.size:=z1
 generalize W.drew=U at *;clear B1 c1;refine aK 0 hS ?_;refine aF 1 hS rfl (fun w0 h0=>by have c0:=h0.2.cell 1 rfl;go_simp;try with_reducible rfl) ?_;refine aK 2 hS ?_;refine aK 3 hS ?_
 refine aF 4 hS rfl (fun w0 h0=>by have c0:=h0.1.cell 0 rfl;have c1:=h0.1.cell 1 rfl;go_simp;try with_reducible rfl) ?_;refine aO 5 ?_;intro K hK;go_simp;refine mr (HW.out _) fun w3 hb=>?_
 have hS3:=And.intro (hS.1.kept hb) (hS.2.kept hb);have F3:=F1.trans (Fr8.of hb (by omega));have G3:∀b,b<w.heap.size→w3.heap[b]?=w.heap[b]?:=fun b h=>(hb.block b (by omega)).trans (G1 b h)
 replace c2:=c2.keep hb;clear hb hS F1 G1 HW;refine hK.out _ _ (fun _=>hS3) ?_;clear hK K;try simp only[Act.put,yq0,yq1,yq2,yq3,yq4,yq5]
 refine aO 6 ?_;intro K hK;go_simp;rw[u1.out];refine(HL.out _ c2).mono ?_;rintro e w4 ⟨rfl,hO,hT⟩;have hS4:=And.intro (hT.cel hS3.1 (by omega)) (hT.cel hS3.2 l4);have F4:=F3.trans (hT.fr l1 l2)
 have G4:∀b,b≠gw→b<w.heap.size→w4.heap[b]?=w.heap[b]?:=fun b h0 h=>(hT.block b h0).trans (G3 b h);clear c2 hT hS3 F3 G3 HL;refine hK.out _ _ (fun _=>hS4) ?_;clear hK K
 try simp only[Act.put,yq0,yq1,yq2,yq3,yq4,yq5]
 refine AnyG.done (by kernel_rfl) ?_ _;clear hS4;go_wp2;go_ret;exact⟨rfl,hO,F4,G4⟩
structure TInv (w0:World) (m n gr gw gz:Nat) (Y:List Nat) (i:Nat) (w:World):Prop where
 below:Below w0.heap.size w0 w
 row:Cel w gr [.int .i64 (m:Nat),.slice (some ⟨gw,0,none⟩) n n] 33
 z:Cel w gz [.int .i64 0,.slice none 0 0] 33
 own:Own w gw (rowP m (bitAt Y) (15*i))
theorem TInv.keep{w0:World}{m n gr gw gz hi i:Nat}{Y:List Nat}{w w':World}(h:TInv w0 m n gr gw gz Y i w)(h0:w0.heap.size≤hi)(h1:gr<hi)(h2:gw<hi)(h3:gz<hi)(hb:Below hi w w'):TInv w0 m n gr gw gz Y i w':=
 ⟨h.below.trans (hb.mono h0),h.row.keep hb h1,h.z.keep hb h3,(hb.block gw h2).trans h.own⟩
theorem bits_k8(cs:List Value)(a:RA8)(w:World)(h:KI8 w cs a):
  Calls Tryz.prog 88 #[.agg cs.toArray] w fun e w'=>∃bo bc,e=.returned (.agg #[.int .i64 (kBN8 a),.slice bo (kBX8 a).length bc])∧Wd w' bo (kBX8 a)∧(kBX8 a).length≤bc∧Below w.heap.size w w':=by
 have C:=fun(w0:World) (hb:Below w.heap.size w w0)=>qcheck_c cs a w0 (h.keep hb);cases hk:kOk8 a with
 | false=>
  rw[hk]at C;have CH:Hid (Qz w 85 #[.agg cs.toArray] (.bool false)):=C
  have hr:rOk a.N a.k a.V a.M a.xs a.L a.ys a.S a.T=false:=hk;have e1:kBN8 a=0:=by unfold kBN8 rBN;rw[hr];rfl
  have e2:kBX8 a=[]:=by unfold kBX8 rBX;rw[hr];rfl
  rw[e1,e2];clear C hk hr e1 e2;obtain⟨⟨ao,cap,qo,dap,so,sc,tO,tc,rfl,_⟩,_⟩:=h;obtain⟨N,k,V,M,xs,L,ys,S,T⟩:=a;dsimp only at *
  obtain⟨W,hW⟩:∃W,W=(w.alloc (.cells #[.int .i64 N,.int .i64 k,.int .i64 V,.int .i64 M,.slice ao xs.length cap,.int .i64 L,.slice qo ys.length dap,.slice so S.length sc,.slice tO T.length tc] 41)).alloc (.cells #[.int .i64 0,.slice none 0 0] 33):=⟨_,rfl⟩
  have bW:=yb2 hW;have B2:=yc2 hW;go_enter Tryz.func88,Tryz.ntmps88;go_wp2_with fail;rw[←hW];refine mr (CH.out _ bW) fun w1 hb=>?_;have bw1:=bg bW hb;replace B2:=B2.kept hb
  have f0:=B2.frozen 0;have f1:=B2.frozen 1;have n0:=B2.cell 0 rfl;have n1:=B2.cell 1 rfl;clear hW hb;go_wp2
  refine bodyPost_ret (result_cel1 rfl (w.heap.size+1) [.int .i64 0,.slice none 0 0] rfl ((B2.set 0 _).set 1 _) Tryz.underlying33 r8info_b) rfl ⟨none,0,rfl,fun h=>absurd h (Nat.lt_irrefl _),Nat.le_refl _,?_⟩
  exact(bw1.setCell (by show w.heap.size≤w.heap.size+1;omega) _).setCell (by show w.heap.size≤w.heap.size+1;omega) _
 | true=>
  rw[hk]at C;have CH:Hid (Qz w 85 #[.agg cs.toArray] (.bool true)):=C;obtain⟨m,eN,v⟩:=ok_kv a hk;have hm:=v.le
  have vN:=v.nN;clear C hk;rw[eN];generalize kBX8 a=Y at *;obtain⟨n,hn⟩:∃n,n=(m+63)/64:=⟨_,rfl⟩
  have hYl:Y.length=n:=by
   obtain⟨_,_,q,_⟩:=chk_out _ _ v.ck;omega
  have HN:Hid (∀w0,Calls Tryz.prog 147 #[.int .i64 (m:Int)] w0 fun e w'=>∃g,e=.returned (.agg #[.int .i64 (m:Nat),.slice (some ⟨g,0,none⟩) n n])∧w0.heap.size≤g∧Own w' g (rowP m (bitAt Y) (15*0))∧Below w0.heap.size w0 w'):=by
   intro w0;have:=qnoughts_c m n hm hn w0;rw[←rowP_zero m (bitAt Y)]at this;exact this
  have g1:0<gN m:=by unfold gN;omega
  have HA:Hid (∀(gr gw gz:Nat) w1,TInv w m n gr gw gz Y 0 w1→w.heap.size≤gw→gr≠gw→gz≠gw→gr<w1.heap.size→gz<w1.heap.size→Calls Tryz.prog 142 #[.agg cs.toArray,.int .i64 0,.func (.func 148) #[] #[.pointer (some ⟨gr,0,none⟩)]] w1 fun e w'=>∃r,e=.returned r∧TInv w m n gr gw gz Y (nb m) w'):=by
   intro gr gw gz w1 hI l1 l2 l3 l4 l5;have l6:gw<w1.heap.size:=hI.own.lt
   refine(qalong_c cs a 0 (nb m) w.heap.size w1.heap.size 148 #[.pointer (some ⟨gr,0,none⟩)] (fun i w2=>TInv w m n gr gw gz Y i w2) (fun _ _=>False) w1 v.nk v.nV v.ic (by omega) (by rw[v.sl];exact g1) (by rw[v.tl];exact g1) (v.gs _ g1) (v.gt _ g1) hI.below.size (Nat.le_refl _) hI (fun i w2 hi=>h.keep hi.below) (fun i w2 w3 hi hb=>hi.keep hI.below.size l4 l6 l5 hb) (fun _ _ _ hf _=>hf) ?cf ?st).mono ?_
   case cf=>
    intro args w2;kernel_rfl
   case st=>
    intro i w2 _ hin hse hi hw2;refine(qbits1_c a m i n gr gw w.heap.size w1.heap.size Y w2 v hin hn hi.row hi.own l1 l6 hw2 l2).mono ?_;rintro e w3 ⟨rfl,d1,fr,gg⟩
    refine⟨true,rfl,fun _=>⟨hi.below.trans fr.below,(gg gr l2 hi.row.lt).trans hi.row,(gg gz l3 hi.z.lt).trans hi.z,d1⟩,nofun,fr⟩
   ·rintro e w2 ⟨q,b,rfl,_,hq,h1,h2,fr⟩;cases b with
    | true=>exact⟨_,rfl,(h1 rfl).2⟩
    | false=>
     obtain⟨hlt,h3⟩:=h2 rfl;rcases h3 with⟨h3,_⟩ | ⟨_,h4⟩
     ·exact absurd (v.se q hlt) h3
     ·exact absurd h4 id
  have hmf:∀(fn:Fn) (first cap:Array Value) (w:World),(Instr.makeFunc fn first cap).run Tryz.prog w=.ok (.func fn first cap) w:=fun _ _ _ _=>rfl
  have HE:Hid (rowP m (bitAt Y) (15*nb m)=Y):=bits_end m Y v.fit v.ck;clear v hn;obtain⟨⟨ao,cap,qo,dap,so,sc,tO,tc,rfl,_⟩,_⟩:=h;obtain⟨N,k,V,M,xs,L,ys,S,T⟩:=a;dsimp only at *;subst vN
  obtain⟨W,hW⟩:∃W,W=(w.alloc (.cells #[.int .i64 (m:Int),.int .i64 k,.int .i64 V,.int .i64 M,.slice ao xs.length cap,.int .i64 L,.slice qo ys.length dap,.slice so S.length sc,.slice tO T.length tc] 41)).alloc (.cells #[.int .i64 0,.slice none 0 0] 33):=⟨_,rfl⟩
  have bW:=yb2 hW;have zW:W.heap.size=w.heap.size+2:=by rw[hW];simp
  have B1:=yc3 hW;have B2:=yc2 hW;go_enter Tryz.func88,Tryz.ntmps88;go_wp2_with fail;rw[←hW];refine mr (CH.out _ bW) fun w1 hb=>?_;have bw1:=bg bW hb;have z1:=hb.size
  replace B1:=B1.kept hb;replace B2:=B2.kept hb;have q0:=B1.cell 0 rfl;clear hW hb bW CH;go_wp2_with fail;refine(HN.out _).mono ?_;rintro e w2 ⟨g,rfl,hg,hO,hb⟩;have bw2:=bg bw1 hb
  have z2:=hb.size;replace B1:=B1.kept hb;replace B2:=B2.kept hb;have lg:=hO.lt;clear q0 hb bw1 HN;have q0:=B1.cell 0 rfl;have q1:=B1.cell 1 rfl;have q2:=B1.cell 2 rfl;have q3:=B1.cell 3 rfl
  have q4:=B1.cell 4 rfl;have q5:=B1.cell 5 rfl;have q6:=B1.cell 6 rfl;have q7:=B1.cell 7 rfl;have q8:=B1.cell 8 rfl;have l1:=B1.lt
  obtain⟨W3,hW3⟩:∃W3,W3=w2.alloc (.cells #[.int .i64 (m:Nat),.slice (some ⟨g,0,none⟩) n n] 33):=⟨_,rfl⟩;have hb3:Below w2.heap.size w2 W3:=by rw[hW3];exact below_alloc w2 _
  have z3:W3.heap.size=w2.heap.size+1:=by rw[hW3];simp
  have B3:Cel W3 w2.heap.size [.int .i64 (m:Nat),.slice (some ⟨g,0,none⟩) n n] 33:=by rw[hW3];exact Cel.new w2 _ _
  have HI:Hid (TInv w m n w2.heap.size g (w.heap.size+1) Y 0 W3):=⟨bg bw2 hb3,B3,B2.kept hb3,hO.keep hb3⟩;clear hO B2 B3 bw2 hb3;go_wp2_with fail;rw[←hW3]
  refine(HA.out w2.heap.size g (w.heap.size+1) W3 HI.out (by omega) (by omega) (by omega) (by omega) (by omega)).mono ?_;rintro e w4 ⟨r,rfl,hI⟩;have r0:=hI.row.cell 0 rfl;have r1:=hI.row.cell 1 rfl
  have f0:=hI.z.frozen 0;have f1:=hI.z.frozen 1;have n0:=hI.z.cell 0 rfl;have n1:=hI.z.cell 1 rfl;have HI4:Hid (TInv w m n w2.heap.size g (w.heap.size+1) Y (nb m) w4):=hI
  clear hI HI HA q0 q1 q2 q3 q4 q5 q6 q7 q8 B1 hW3;go_wp2;obtain⟨i1,i2,i3,i4⟩:=HI4.out;rw[HE.out]at i4
  have i5:Own ((w4.setCell ⟨w.heap.size+1,0,none⟩ (.int .i64 (m:Nat))).setCell ⟨w.heap.size+1,1,none⟩ (.slice (some ⟨g,0,none⟩) n n)) g Y:=(i4.set_other (by show g≠w.heap.size+1;omega) _).set_other (by show g≠w.heap.size+1;omega) _
  refine bodyPost_ret (result_cel1 rfl (w.heap.size+1) [.int .i64 (m:Nat),.slice (some ⟨g,0,none⟩) n n] rfl ((i3.set 0 _).set 1 _) Tryz.underlying33 r8info_b) rfl ⟨some ⟨g,0,none⟩,n,by rw[hYl],i5.wd,by omega,?_⟩
  exact(i1.setCell (by show w.heap.size≤w.heap.size+1;omega) _).setCell (by show w.heap.size≤w.heap.size+1;omega) _
end Go.Proofs.YtfnkklkdajlhlaaGreatDoor
namespace Go.Proofs.YtfnkklkdajlhlaaGreatDoor
open Go.RowKit Num Bit
end Go.Proofs.YtfnkklkdajlhlaaGreatDoor
