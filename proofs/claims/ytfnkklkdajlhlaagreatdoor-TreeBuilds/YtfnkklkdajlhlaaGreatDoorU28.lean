import Derived.Test.YtfnkklkdajlhlaaGreatDoorU27
set_option linter.unusedVariables false
set_option linter.unusedSimpArgs false
set_option maxRecDepth 100000
set_option maxHeartbeats 16000000
namespace Go.Proofs.YtfnkklkdajlhlaaGreatDoor
open Go.RowKit Num Bit
theorem KI.fit{w:World}{cs:List Value}{a:RA}(h:KI w cs a):Fit (kBX a):=by
 by_cases h1:kOn a=1
 ·rw[(on_p h1).2.2.1];obtain⟨⟨cp,cr,cf,_,_,⟨ao,cap,so,sc,tO,tc,_,h⟩,_⟩,_⟩:=h;exact pi_fit a.p.N a.p.xs a.p.S a.p.T h.f
 by_cases h2:kOn a=2
 ·rw[(on_r h2).2.2.1];exact kB_fit8 _
 by_cases h3:kOn a=3
 ·rw[(on_f h3).2.2.1];exact kB_fit9 _
 rw[(on_n h1 h2 h3).2.2.1];exact fit_nil
theorem v10check_k(cs:List Value)(a:RA)(w:World)(h:KI w cs a):
  Calls Tryz.prog 76 #[.agg cs.toArray] w fun e w'=>e=.returned (.bool (kOk a))∧Below w.heap.size w w':=
 v10check_g cs (Hid.mk8 h.arg.len) (kOk a) (kBN a) (kBX a) w h.fit (kB_chk a) (fun w0 hb=>v10whole_k cs a w0 (h.keep hb))
theorem v10bits_k(cs:List Value)(a:RA)(w:World)(h:KI w cs a):
  Calls Tryz.prog 10 #[.agg cs.toArray] w fun e w'=>∃bo bc,e=.returned (.agg #[.int .i64 (kBN a),.slice bo (kBX a).length bc])∧Wd w' bo (kBX a)∧(kBX a).length≤bc∧Below w.heap.size w w':=
 v10bits_g cs (Hid.mk8 h.arg.len) (kOk a) (kBN a) (kBX a) w h.fit (kB_chk a) (fun w0 hb=>v10whole_k cs a w0 (h.keep hb))
theorem kZ_bad(a:RA)(h:kOk a=false):kZ a=0:=by
 by_cases h1:kOn a=1
 ·obtain⟨e1,_,_,e4⟩:=on_p h1;rw[e4];unfold kZ7 pzN;rw[show pchk a.p.N a.p.xs a.p.S a.p.T=false from e1.symm.trans h];rfl
 by_cases h2:kOn a=2
 ·obtain⟨e1,_,_,e4⟩:=on_r h2;rw[e4];unfold kZ8 rzN;rw[show rOk a.r.N a.r.k a.r.V a.r.M a.r.xs a.r.L a.r.ys a.r.S a.r.T=false from e1.symm.trans h];rfl
 by_cases h3:kOn a=3
 ·obtain⟨e1,_,_,e4⟩:=on_f h3;rw[e4];unfold kZ9;rw[if_neg (by rw[←e1,h];decide)]
 exact(on_n h1 h2 h3).2.2.2
theorem v10size_k(cs:List Value)(a:RA)(w:World)(h:KI w cs a):
  Calls Tryz.prog 43 #[.agg cs.toArray] w fun e w'=>e=.returned (.int .i64 (kZ a))∧Below w.heap.size w w':=by
 have CH0:=fun(w0:World) (hb:Below w.heap.size w w0)=>v10check_k cs a w0 (h.keep hb);have HL:=Hid.mk8 h.arg.len;have sm:=h.sm;have gv:=h.gv;replace h:=h.arg;obtain⟨cp,cr,cf,rfl,hK,h1,h2,h3⟩:=h
 have l4:=Hid.mk8 h1.four;have l9:=Hid.mk8 h2.nine;have LP:=Hid.mk8 h1.len;have LR:=Hid.mk8 h2.len;have LF:=Hid.mk8 h3.len;obtain⟨K,p,r,f⟩:=a;dsimp only at *;have k7:KI7 w cp p:=⟨h1,sm.p1,sm.p2,sm.p3⟩
 have k8:KI8 w cr r:=⟨h2,sm.r1,sm.r2,sm.r3,sm.r4,gv⟩;have k9:KI9 w cf f:=⟨h3,sm.f0,sm.f1,sm.f2⟩
 have CH:Hid (∀w0,Below w.heap.size w w0→Calls Tryz.prog 76 #[.agg (Value.int .i64 K::(cp++(cr++cf))).toArray] w0 fun e w'=>e=.returned (.bool (kOk ⟨K,p,r,f⟩))∧Below w0.heap.size w0 w'):=CH0
 clear CH0 h1 h2 h3 sm gv;have bw:Below w.heap.size w (w.alloc (.cells (Value.int .i64 K::(cp++(cr++cf))).toArray 45)):=below_alloc w _
 have B0:Cel (w.alloc (.cells (Value.int .i64 K::(cp++(cr++cf))).toArray 45)) w.heap.size (Value.int .i64 K::(cp++(cr++cf))) 45:=Cel.new w _ _;cases hk:kOk ⟨K,p,r,f⟩with
 | false=>
  rw[kZ_bad _ hk];rw[hk]at CH;clear hk k7 k8 k9;go_enter Tryz.func43,Tryz.ntmps43;go_wp2_with (refine load_obj w.heap.size _ (by rfl) rfl B0 Tryz.underlying45 HL.out ?_);refine(CH.out _ bw).mono ?_;rintro e w1 ⟨rfl,hb⟩
  replace B0:=B0.kept hb;replace bw:=bw.trans (hb.mono bw.size);clear hb;obtain⟨c0,p1,p2,p3⟩:=parts l4.out l9.out B0;go_wp2;go_ret;exact⟨rfl,bw⟩
 | true=>
  have o:kOn ⟨K,p,r,f⟩=K∧(K=1∨K=2∨K=3):=by
   have e:kOn ⟨K,p,r,f⟩=K∨kOn ⟨K,p,r,f⟩=0:=by unfold kOn;split<;>simp
   by_cases o1:kOn ⟨K,p,r,f⟩=1
   ·exact⟨by omega,by omega⟩
   by_cases o2:kOn ⟨K,p,r,f⟩=2
   ·exact⟨by omega,by omega⟩
   by_cases o3:kOn ⟨K,p,r,f⟩=3
   ·exact⟨by omega,by omega⟩
   rw[(on_n o1 o2 o3).1]at hk;cases hk
  rw[hk]at CH;clear hk;obtain⟨o,q⟩:=o;rcases q with rfl | rfl | rfl
  ·obtain⟨e1,e2,e3,e4⟩:=on_p o;rw[e4]
   have C:Hid (∀w0,Below w.heap.size w w0→Calls Tryz.prog 77 #[.agg cp.toArray] w0 fun e w'=>e=.returned (.int .i64 (kZ7 p))∧Below w0.heap.size w0 w'):=fun w0 g=>p7size_k cp p w0 (k7.keep g)
   clear e1 e2 e3 e4 k7 k8 k9 o;generalize kZ7 p=Z at *;go_enter Tryz.func43,Tryz.ntmps43;go_wp2_with (refine load_obj w.heap.size _ (by rfl) rfl B0 Tryz.underlying45 HL.out ?_);refine(CH.out _ bw).mono ?_
   rintro e w1 ⟨rfl,hb⟩;replace B0:=B0.kept hb;replace bw:=bw.trans (hb.mono bw.size);clear hb;obtain⟨c0,p1,p2,p3⟩:=parts l4.out l9.out B0
   go_wp2_with (refine load_part w.heap.size 1 cp (by rfl) rfl p1 Tryz.underlying37 LP.out ?_);refine(C.out _ bw).mono ?_;rintro e w2 ⟨rfl,hb⟩;replace bw:=bw.trans (hb.mono bw.size);go_wp2;go_ret;exact⟨rfl,bw⟩
  ·obtain⟨e1,e2,e3,e4⟩:=on_r o;rw[e4]
   have C:Hid (∀w0,Below w.heap.size w w0→Calls Tryz.prog 78 #[.agg cr.toArray] w0 fun e w'=>e=.returned (.int .i64 (kZ8 r))∧Below w0.heap.size w0 w'):=fun w0 g=>r8size_k cr r w0 (k8.keep g)
   clear e1 e2 e3 e4 k7 k8 k9 o;generalize kZ8 r=Z at *;go_enter Tryz.func43,Tryz.ntmps43;go_wp2_with (refine load_obj w.heap.size _ (by rfl) rfl B0 Tryz.underlying45 HL.out ?_);refine(CH.out _ bw).mono ?_
   rintro e w1 ⟨rfl,hb⟩;replace B0:=B0.kept hb;replace bw:=bw.trans (hb.mono bw.size);clear hb;obtain⟨c0,p1,p2,p3⟩:=parts l4.out l9.out B0
   go_wp2_with (refine load_part w.heap.size 5 cr (by rfl) rfl p2 Tryz.underlying41 LR.out ?_);refine(C.out _ bw).mono ?_;rintro e w2 ⟨rfl,hb⟩;replace bw:=bw.trans (hb.mono bw.size);go_wp2;go_ret;exact⟨rfl,bw⟩
  ·obtain⟨e1,e2,e3,e4⟩:=on_f o;rw[e4]
   have C:Hid (∀w0,Below w.heap.size w w0→Calls Tryz.prog 79 #[.agg cf.toArray] w0 fun e w'=>e=.returned (.int .i64 (kZ9 f))∧Below w0.heap.size w0 w'):=fun w0 g=>f9size_k cf f w0 (k9.keep g)
   clear e1 e2 e3 e4 k7 k8 k9 o;generalize kZ9 f=Z at *;go_enter Tryz.func43,Tryz.ntmps43;go_wp2_with (refine load_obj w.heap.size _ (by rfl) rfl B0 Tryz.underlying45 HL.out ?_);refine(CH.out _ bw).mono ?_
   rintro e w1 ⟨rfl,hb⟩;replace B0:=B0.kept hb;replace bw:=bw.trans (hb.mono bw.size);clear hb;obtain⟨c0,p1,p2,p3⟩:=parts l4.out l9.out B0
   go_wp2_with (refine load_part w.heap.size 14 cf (by rfl) rfl p3 Tryz.underlying43 LF.out ?_);refine(C.out _ bw).mono ?_;rintro e w2 ⟨rfl,hb⟩;replace bw:=bw.trans (hb.mono bw.size);go_wp2;go_ret;exact⟨rfl,bw⟩
theorem v10same_k(cs ds:List Value)(a:RA)(w:World)(h:KI w cs a)(g:KI w ds a):
  Calls Tryz.prog 72 #[.agg cs.toArray,.agg ds.toArray] w fun e w'=>e=.returned (.bool true)∧Below w.heap.size w w':=by
 have sm:=h.sm;have gv:=h.gv;replace h:=h.arg;replace g:=g.arg;obtain⟨cp,cr,cf,rfl,hK,h1,h2,h3⟩:=h;have l4:=Hid.mk8 h1.four;have l9:=Hid.mk8 h2.nine;have LP:=Hid.mk8 h1.len;have LR:=Hid.mk8 h2.len
 have LF:=Hid.mk8 h3.len;obtain⟨K,p,r,f⟩:=a;dsimp only at *;have k7:KI7 w cp p:=⟨h1,sm.p1,sm.p2,sm.p3⟩;have k8:KI8 w cr r:=⟨h2,sm.r1,sm.r2,sm.r3,sm.r4,gv⟩;have k9:KI9 w cf f:=⟨h3,sm.f0,sm.f1,sm.f2⟩
 obtain⟨dp,dr,df,rfl,_,g1,g2,g3⟩:=g;have m4:=Hid.mk8 g1.four;have m9:=Hid.mk8 g2.nine;have MP:=Hid.mk8 g1.len;have MR:=Hid.mk8 g2.len;have MF:=Hid.mk8 g3.len;have j7:KI7 w dp p:=⟨g1,sm.p1,sm.p2,sm.p3⟩
 have j8:KI8 w dr r:=⟨g2,sm.r1,sm.r2,sm.r3,sm.r4,gv⟩;have j9:KI9 w df f:=⟨g3,sm.f0,sm.f1,sm.f2⟩
 have S7:Hid (∀w0,Below w.heap.size w w0→Calls Tryz.prog 129 #[.agg cp.toArray,.agg dp.toArray] w0 fun e w'=>e=.returned (.bool true)∧Below w0.heap.size w0 w'):=fun w0 u=>p7same_k cp dp p w0 (k7.keep u) (j7.keep u)
 have S8:Hid (∀w0,Below w.heap.size w w0→Calls Tryz.prog 110 #[.agg cr.toArray,.agg dr.toArray] w0 fun e w'=>e=.returned (.bool true)∧Below w0.heap.size w0 w'):=fun w0 u=>r8same_k cr dr r w0 (k8.keep u) (j8.keep u)
 have S9:Hid (∀w0,Below w.heap.size w w0→Calls Tryz.prog 113 #[.agg cf.toArray,.agg df.toArray] w0 fun e w'=>e=.returned (.bool true)∧Below w0.heap.size w0 w'):=fun w0 u=>f9same_k cf df f w0 (k9.keep u) (j9.keep u)
 clear h1 h2 h3 g1 g2 g3 sm gv k7 k8 k9 j7 j8 j9
 have bw:Below w.heap.size w ((w.alloc (.cells (Value.int .i64 K::(cp++(cr++cf))).toArray 45)).alloc (.cells (Value.int .i64 K::(dp++(dr++df))).toArray 45)):=(below_alloc w _).alloc (by simp) _
 have B0:Cel ((w.alloc (.cells (Value.int .i64 K::(cp++(cr++cf))).toArray 45)).alloc (.cells (Value.int .i64 K::(dp++(dr++df))).toArray 45)) w.heap.size (Value.int .i64 K::(cp++(cr++cf))) 45:=(Cel.new w _ _).alloc _
 have B2:Cel ((w.alloc (.cells (Value.int .i64 K::(cp++(cr++cf))).toArray 45)).alloc (.cells (Value.int .i64 K::(dp++(dr++df))).toArray 45)) (w.heap.size+1) (Value.int .i64 K::(dp++(dr++df))) 45:=Cel.new2 w _ _ _
 go_enter Tryz.func72,Tryz.ntmps72;obtain⟨c0,p1,p2,p3⟩:=parts l4.out l9.out B0;obtain⟨d0,t1,t2,t3⟩:=parts m4.out m9.out B2
 go_wp2_with (first | refine load_part w.heap.size 1 cp (by rfl) rfl p1 Tryz.underlying37 LP.out ?_ | refine load_part (w.heap.size+1) 1 dp (by rfl) rfl t1 Tryz.underlying37 MP.out ?_);refine(S7.out _ bw).mono ?_
 rintro e v7 ⟨rfl,hb⟩;replace B0:=B0.kept hb;replace B2:=B2.kept hb;replace bw:=bw.trans (hb.mono bw.size);clear hb c0 p1 p2 p3 d0 t1 t2 t3;obtain⟨c0,p1,p2,p3⟩:=parts l4.out l9.out B0
 obtain⟨d0,t1,t2,t3⟩:=parts m4.out m9.out B2
 go_wp2_with (first | refine load_part w.heap.size 5 cr (by rfl) rfl p2 Tryz.underlying41 LR.out ?_ | refine load_part (w.heap.size+1) 5 dr (by rfl) rfl t2 Tryz.underlying41 MR.out ?_);refine(S8.out _ bw).mono ?_
 rintro e v8 ⟨rfl,hb⟩;replace B0:=B0.kept hb;replace B2:=B2.kept hb;replace bw:=bw.trans (hb.mono bw.size);clear hb c0 p1 p2 p3 d0 t1 t2 t3;obtain⟨c0,p1,p2,p3⟩:=parts l4.out l9.out B0
 obtain⟨d0,t1,t2,t3⟩:=parts m4.out m9.out B2
 go_wp2_with (first | refine load_part w.heap.size 14 cf (by rfl) rfl p3 Tryz.underlying43 LF.out ?_ | refine load_part (w.heap.size+1) 14 df (by rfl) rfl t3 Tryz.underlying43 MF.out ?_);refine(S9.out _ bw).mono ?_
 rintro e v9 ⟨rfl,hb⟩;replace B0:=B0.kept hb;replace B2:=B2.kept hb;replace bw:=bw.trans (hb.mono bw.size);clear hb c0 p1 p2 p3 d0 t1 t2 t3;obtain⟨c0,p1,p2,p3⟩:=parts l4.out l9.out B0
 obtain⟨d0,t1,t2,t3⟩:=parts m4.out m9.out B2;go_wp2;go_ret;exact⟨rfl,bw⟩
theorem rrows_eq(l1 l2:Option Addr)(c1 c2:Nat)(av:List RA)(w:World)(h1:Lv w l1 av)(h2:Lv w l2 av)(hl:av.length≤20):
  Calls Tryz.prog 41 #[.slice l1 av.length c1,.slice l2 av.length c2] w fun e w'=>e=.returned (.bool true)∧Below w.heap.size w w':=by
 have HH:Hid (∀q,q<av.length→∃b1 o1 b2 o2 cs ds,l1=some ⟨b1,o1,none⟩∧l2=some ⟨b2,o2,none⟩∧b1<w.heap.size∧b2<w.heap.size∧w.rangeAt b1 (o1+q*22) cs∧w.rangeAt b2 (o2+q*22) ds∧(Tryz.prog.info? 45).map (·.size)=some cs.length∧(Tryz.prog.info? 45).map (·.size)=some ds.length∧∀w0,Below w.heap.size w w0→Calls Tryz.prog 72 #[.agg cs.toArray,.agg ds.toArray] w0 fun e w'=>e=.returned (.bool true)∧Below w0.heap.size w0 w'):=fun q hq=>by
  obtain⟨b1,o1,e1,g1,r1⟩:=h1 (by omega);obtain⟨b2,o2,e2,g2,r2⟩:=h2 (by omega);obtain⟨cs,k1,k2⟩:=r1 q hq;obtain⟨ds,m1,m2⟩:=r2 q hq
  exact⟨b1,o1,b2,o2,cs,ds,e1,e2,g1,g2,k1,m1,k2.arg.len,m2.arg.len,fun w0 hb=>v10same_k cs ds _ w0 (k2.keep hb) (m2.keep hb)⟩
 obtain⟨n,hn⟩:∃n,Hid (n=av.length):=⟨_,rfl⟩;rw[←hn.out]at HH hl⊢;clear h1 h2;go_enter Tryz.func41,Tryz.ntmps41;go_wp2
 go_loopw [5] (fun s wr=>∃q:Nat,q≤n∧s=.int .i64 q∧Below w.heap.size w wr) (fun s _=>n-(intOf s).toNat)
 case atStart=>exact⟨0,Nat.zero_le _,rfl,Below.refl _ _⟩
 case round=>
  obtain⟨q,hq,rfl,hb⟩:=hrel;by_cases hi:q<n
  ·have hi2:(q:Int)<(n:Int):=by omega
   obtain⟨b1,o1,b2,o2,cs,ds,rfl,rfl,g1,g2,r1,r2,L1,L2,SM⟩:=HH.out q hi;have R1:=Hid.mkt r1;have R2:=Hid.mkt r2;have H1:=Hid.mkt L1;have H2:=Hid.mkt L2;have S0:=Hid.mkt SM;clear r1 r2 L1 L2 SM HH;go_wp2
   refine region_g [] (fun w'=>Below w.heap.size w w') (by kernel_rfl) ?_
   have hS:Below w.heap.size w wr.drew:=hb.drew;clear hb;generalize wr.drew=V at *;refine AnyG.tk 0 hS ?_;refine AnyG.tk 1 hS ?_;refine AnyG.tk 2 hS ?_
   refine AnyG.take 3 (v:=.agg (cs).toArray) rfl (by kernel_rfl) (by kernel_rfl) (by kernel_rfl) (by kernel_rfl) (fun _ _ _ h=>h) hS (fun w0 h0=>run_load_part b1 (o1+q*22) _ rfl (range_keep R1.out h0 g1) Tryz.underlying45 H1.out) (by rfl) ?rest4
   simp only[Act.put,yq0,yq1,yq2,yq3,yq4,yq5];refine AnyG.tk 4 hS ?_;refine AnyG.tk 5 hS ?_;refine AnyG.tk 6 hS ?_
   refine AnyG.take 7 (v:=.agg (ds).toArray) rfl (by kernel_rfl) (by kernel_rfl) (by kernel_rfl) (by kernel_rfl) (fun _ _ _ h=>h) hS (fun w0 h0=>run_load_part b2 (o2+q*22) _ rfl (range_keep R2.out h0 g2) Tryz.underlying45 H2.out) (by rfl) ?rest8
   simp only[Act.put,yq0,yq1,yq2,yq3,yq4,yq5];refine AnyG.o1 8 ?_;intro K hK;go_simp;refine(S0.out _ hS).mono ?_;rintro e w5 ⟨rfl,hb5⟩;have hS2:=hS.trans (hb5.mono hS.size);clear hb5
   refine hK.out _ _ (fun _=>hS2) ?_;clear hK K;try simp only[Act.put,yq0,yq1,yq2,yq3,yq4,yq5]
   refine AnyG.tk 9 hS2 ?_;refine AnyG.done (by kernel_rfl) ?_ _;clear hS;go_wp2;exact⟨⟨q+1,by omega,by go_num,hS2⟩,by simp only[intOf];omega⟩
  ·obtain rfl:q=n:=by omega
   clear HH;go_wp2;go_ret;exact⟨rfl,hb⟩
theorem rsame_eq(l1 l2:Option Addr)(c1 c2:Nat)(x:TR)(w:World)(h1:TI w l1 c1 x)(h2:TI w l2 c2 x)(hl:x.av.length≤20):
  Calls Tryz.prog 15 #[.agg #[.int .i64 x.K,.int .i64 x.N,.slice l1 x.av.length c1],.agg #[.int .i64 x.K,.int .i64 x.N,.slice l2 x.av.length c2]] w fun e w'=>e=.returned (.bool true)∧Below w.heap.size w w':=by
 have H:Hid (∀w0,Below w.heap.size w w0→Calls Tryz.prog 41 #[.slice l1 x.av.length c1,.slice l2 x.av.length c2] w0 fun e w'=>e=.returned (.bool true)∧Below w0.heap.size w0 w'):=fun w0 hb=>rrows_eq l1 l2 c1 c2 x.av w0 (h1.keep hb).l (h2.keep hb).l hl
 have hk:=h1.k;have hn:=h1.n
 have bw:Below w.heap.size w ((w.alloc (.cells #[.int .i64 x.K,.int .i64 x.N,.slice l1 x.av.length c1] 26)).alloc (.cells #[.int .i64 x.K,.int .i64 x.N,.slice l2 x.av.length c2] 26)):=(below_alloc w _).alloc (by simp) _
 clear h1 h2 hl;generalize x.K=K at *;generalize x.N=N at *;generalize x.av.length=m at *;go_enter Tryz.func15,Tryz.ntmps15;go_wp2_with fail;refine(H.out _ bw).mono ?_;rintro e w5 ⟨rfl,hb5⟩
 replace bw:=bw.trans (hb5.mono bw.size);go_wp2;go_ret;exact⟨rfl,bw⟩
def rAll(x:TR):Bool:=decide (x.av.length=8)&&(decide (0≤x.N∧x.N≤8192)&&(List.range 8).all fun l=>decide (kBN (lw x l)=x.N))
def rX(x:TR):List Nat:=if rAll x then txt x else []
theorem rAll_no1{x:TR}(h:x.av.length≠8∨x.N<0∨8192<x.N):rAll x=false:=by
 unfold rAll;rcases h with h | h
 ·rw[decide_eq_false h];rfl
 ·rw[decide_eq_false (show ¬(0≤x.N∧x.N≤8192)by omega)];simp
theorem rAll_no{x:TR}(l:Nat)(hl:l<8)(h:kBN (lw x l)≠x.N):rAll x=false:=by
 refine Bool.eq_false_iff.2 fun e=>?_;unfold rAll at e;simp only[Bool.and_eq_true,List.all_eq_true,decide_eq_true_eq]at e;exact h (e.2.2 l (List.mem_range.2 hl))
theorem rAll_yes{x:TR}(h1:x.av.length=8)(h2:0≤x.N∧x.N≤8192)(h:∀l,l<8→kBN (lw x l)=x.N):rAll x=true:=by
 unfold rAll;simp only[Bool.and_eq_true,List.all_eq_true,decide_eq_true_eq];exact⟨h1,h2,fun l hl=>h l (List.mem_range.1 hl)⟩
theorem own_int{w:World}{base n c:Nat}{ao:Option Addr}{L:List Value}(h:w.ownsRow base 3 1 (.slice ao n c) n L)(i:Nat)(hi:i<n):∃g,ao=some ⟨g,0,none⟩∧g<w.heap.size∧(∃cur,w.heap[g]?=some (.cells cur 3 (0,0)))∧∀u,L[i]?=some u→w.cell? ⟨g,i,none⟩=some u:=by
 obtain⟨_,⟨e,rfl⟩ | ⟨g,cap,cur,e,_,hh,_,_,hs,ht⟩⟩:=h
 ·omega
 ·injection e with e1 e2 e3
  subst e1;refine⟨g,rfl,(Array.getElem?_eq_some_iff.1 hh).1,⟨cur,hh⟩,fun u hu=>?_⟩;rw[←ht,List.getElem?_take_of_lt (by omega)]at hu;unfold World.cell?
  rw[show w.heap[({ block:=g,off:=i,spot:=none }:Addr).block]?=_ from hh];simpa using hu
def Oi(w:World)(ao:Option Addr)(n:Nat)(L:List Nat):Prop:=∀i y,i<n→L[i]?=some y→∃g,ao=some ⟨g,0,none⟩∧g<w.heap.size∧(∃cur,w.heap[g]?=some (.cells cur 3 (0,0)))∧w.cell? ⟨g,i,none⟩=some (.int .i64 (y:Nat))
theorem oi_own{w:World}{base n c:Nat}{ao:Option Addr}{L t:List Nat}(h:w.ownsRow base 3 1 (.slice ao n c) n (pli L t)):Oi w ao n L:=fun i y hi hy=>by
 obtain⟨g,e1,e2,e3,e4⟩:=own_int h i hi;exact⟨g,e1,e2,e3,e4 _ (by unfold pli;rw[List.getElem?_map,hy];rfl)⟩
theorem Oi.keep{w w':World}{ao:Option Addr}{n:Nat}{L:List Nat}(h:Oi w ao n L)(hb:Below w.heap.size w w'):Oi w' ao n L:=fun i y hi hy=>by
 obtain⟨g,e1,e2,⟨cur,e3⟩,e4⟩:=h i y hi hy;exact⟨g,e1,Nat.lt_of_lt_of_le e2 hb.size,⟨cur,(hb.block g e2).trans e3⟩,(hb.cell (p:=⟨g,i,none⟩) e2).trans e4⟩
theorem Oi.only{w w':World}{ao:Option Addr}{n g3:Nat}{L:List Nat}{gs:List Value}(h:Oi w ao n L)(hc:Cel w g3 gs 5)(hO:Only g3 w w'):Oi w' ao n L:=fun i y hi hy=>by
 obtain⟨g,e1,e2,⟨cur,e3⟩,e4⟩:=h i y hi hy
 have hne:g≠g3:=fun q=>by
  subst q;unfold Cel at hc;rw[hc]at e3;injection e3 with e3
  injection e3 with _ e3
  cases e3
 exact⟨g,e1,by rw[hO.size];exact e2,⟨cur,(hO.block g hne).trans e3⟩,(hO.cell (p:=⟨g,i,none⟩) hne).trans e4⟩
theorem kBN_bad(a:RA)(h:kOk a=false):kBN a=0:=by
 by_cases k1:kOn a=1
 ·obtain⟨e1,e2,_,_⟩:=on_p k1;rw[e2];unfold kBN7 piN;rw[if_neg (by rw[show pchk a.p.N a.p.xs a.p.S a.p.T=kOk7 a.p from rfl,←e1,h];decide)]
 by_cases k2:kOn a=2
 ·obtain⟨e1,e2,_,_⟩:=on_r k2;rw[e2];unfold kBN8 rBN;rw[if_neg (by rw[show rOk a.r.N a.r.k a.r.V a.r.M a.r.xs a.r.L a.r.ys a.r.S a.r.T=kOk8 a.r from rfl,←e1,h];decide)]
 by_cases k3:kOn a=3
 ·obtain⟨e1,e2,_,_⟩:=on_f k3;rw[e2];unfold kBN9;rw[if_neg (by rw[←e1,h];decide)]
 exact(on_n k1 k2 k3).2.1
theorem shl7:∀q:Nat,q<8→(2:Int)^min (7-q) 8%256=((2^(7-q):Nat):Int):=by
 intro q hq;have:q=0∨q=1∨q=2∨q=3∨q=4∨q=5∨q=6∨q=7:=by omega
 rcases this with rfl | rfl | rfl | rfl | rfl | rfl | rfl | rfl<;>rfl
theorem plc_root(r:Nat→Nat→Bool)(n:Nat):Tw.plc (Tw.tx r n 0) 0=List.range n:=by
 have e:∀i,Tw.hi 0 (gt (Tw.tx r n 0) i)=0:=fun i=>by rw[Tw.gt_tx0];rfl
 unfold Tw.plc Tw.seg Tw.sg;rw[Tw.length_tx];simp[e]
theorem pli_snoc'(i:Nat)(t:List Nat):pli (List.range i) t++[.int .i64 (i:Nat)]=pli (List.range (i+1)) t:=by
 rw[pli_snoc,List.range_succ]
def RBt(w0:World)(L:List Nat)(e:Ending)(w':World):Prop:=∃bo bc,e=.returned (.slice bo L.length bc)∧Bd w' bo L∧L.length≤bc∧Below w0.heap.size w0 w'
theorem rbt0{w0 w':World}(h:Below w0.heap.size w0 w'):RBt w0 [] (.returned (.slice none 0 0)) w':=⟨none,0,rfl,bd0 _ _,Nat.le_refl _,h⟩
theorem rrow_c(lo:Option Addr)(cap:Nat)(x:TR)(w:World)(h:TI w lo cap x):
  Calls Tryz.prog 80 #[.agg #[.int .i64 x.K,.int .i64 x.N,.slice lo x.av.length cap]] w (RBt w (rX x)):=by
 have bx:=Cel.new w [.int .i64 x.K,.int .i64 x.N,.slice lo x.av.length cap] 26;have bw:=below_alloc w (.cells #[.int .i64 x.K,.int .i64 x.N,.slice lo x.av.length cap] 26);have hn64:=h.n;by_cases q1:x.av.length=8
 rotate_left
 ·have e:rX x=[]:=by unfold rX;rw[rAll_no1 (.inl q1)];rfl
  rw[e];have q3:((x.av.length:Int) != 8)=true:=by simp;omega
  clear h e;generalize x.N=N at *;generalize x.K=K at *;generalize x.av.length=m at *;go_enter Tryz.func80,Tryz.ntmps80;go_wp2;go_ret;exact rbt0 bw
 by_cases q2:x.N<0∨8192<x.N
 ·have e:rX x=[]:=by unfold rX;rw[rAll_no1 (.inr q2)];rfl
  rw[e,q1];rw[q1]at bw bx;clear h e q1;generalize x.N=N at *;generalize x.K=K at *;by_cases q3:N<0
  ·clear q2;go_enter Tryz.func80,Tryz.ntmps80;go_wp2;go_ret;exact rbt0 bw
  ·have q4:(8192:Int)<N:=by omega
   clear q2;go_enter Tryz.func80,Tryz.ntmps80;go_wp2;go_ret;exact rbt0 bw
 obtain⟨n,hn⟩:∃n:Nat,x.N=n:=⟨x.N.toNat,by omega⟩;have hn8:n≤8192:=by omega
 obtain⟨b,off,rfl,hbl,_⟩:=h.l (by rw[q1];decide);have HTI:=Hid.mkt h;obtain⟨Z,hZ⟩:∃Z,Hid (Z=rX x):=⟨_,rfl⟩;rw[←hZ.out]
 have ZB:Hid ((∃l,l<8∧kBN (lw x l)≠(n:Int))→Z=[]):=by
  rintro⟨l,h1,h2⟩;rw[hZ.out];unfold rX;rw[rAll_no l h1 (by rw[hn];exact h2)];rfl
 obtain⟨r,hr⟩:∃r:Nat→Nat→Bool,r=fun l i=>bitAt (kBX (lw x l)) i:=⟨_,rfl⟩
 have ZG:Hid ((∀l,l<8→kBN (lw x l)=(n:Int))→Z=Tw.tx r n 8):=fun hall=>by
  rw[hZ.out];unfold rX;rw[rAll_yes q1 (by omega) (fun l hl=>by rw[hn];exact hall l hl),if_pos rfl];unfold txt;rw[hr,hn,Int.toNat_natCast]
 have CO:Hid (∀q,q<8→∃(cs:List Value) (X:List Nat) (M:Int),w.rangeAt b (off+q*22) cs∧(Tryz.prog.info? 45).map (·.size)=some cs.length∧(M=kBN (lw x q)∧(M=(n:Int)→∀i,i<n→(i/64<X.length∧bitAt X i=r q i)))∧∀w0,Below w.heap.size w w0→Calls Tryz.prog 10 #[.agg cs.toArray] w0 fun e w'=>∃bo bc,e=.returned (.agg #[.int .i64 M,.slice bo X.length bc])∧Wd w' bo X∧Below w0.heap.size w0 w'):=fun q hq=>by
  obtain⟨b',off',e,_,hrows⟩:=HTI.out.l (by rw[q1];decide);simp only[Option.some.injEq,Addr.mk.injEq,and_true]at e;obtain⟨rfl,rfl⟩:=e;obtain⟨cs,h1,h2⟩:=hrows q (by rw[q1];exact hq)
  refine⟨cs,kBX (lw x q),kBN (lw x q),h1,h2.arg.len,⟨rfl,fun hM i hi=>⟨?_,by rw[hr]⟩⟩,fun w0 hb=>?_⟩
  ·cases ok:kOk (lw x q)with
   | true=>
    obtain⟨g0,_,g2,_⟩:=chk_out _ _ (kB_chk _ ok);rw[hM]at g2;omega
   | false=>
    have:kBN (lw x q)=0:=kBN_bad _ ok;omega
  ·refine(v10bits_k cs (lw x q) w0 (h2.keep hb)).mono ?_;rintro e w' ⟨bo,bc,rfl,g1,_,g2⟩;exact⟨bo,bc,rfl,g1,g2⟩
 rw[q1,hn]at bx bw⊢;clear h hn64 hr hZ q2;generalize x.K=K at *;obtain⟨i5,hi5,za5,zb5,zc5⟩:=info_parts Tryz.info5;obtain⟨i3,hi3,za3,zb3,zc3⟩:=info_parts info3_9;have nn0:¬(n:Int)<0:=by omega
 have nn1:¬(8192:Int)<(n:Int):=by omega
 have nn2:(0:Int)≤(n:Int):=by omega
 clear hn q1;go_enter Tryz.func80,Tryz.ntmps80;go_wp2_with (at_make;refine wpList_make_full _ rfl _ _ 22 rfl (w.heap.size+1) 5 i5 (.int .u8 0) 1 Tryz.underlying22 hi5 za5 zb5 .i64 .i64 _ _ n rfl rfl rfl rfl ?b2 ?b3 ?b4 ?_)
 case b2=>first | (rw[zc5];omega) | omega
 case b3=>unfold maxLen;omega
 intro w2 hown hgr;have c3:=made_one hown;have hz:(w.alloc (.cells [.int .i64 K,.int .i64 (n:Int),.slice (some ⟨b,off,none⟩) 8 cap].toArray 26)).heap.size=w.heap.size+1:=by simp
 have b2:Below (w.heap.size+1) (w.alloc (.cells [.int .i64 K,.int .i64 (n:Int),.slice (some ⟨b,off,none⟩) 8 cap].toArray 26)) w2:=(Below.refl _ _).grown hgr (by rw[hz];exact Nat.le_refl _) (fun k h=>by cases h)
 replace bx:=bx.keep b2 (by omega);replace bw:=bw.trans (b2.mono (by omega))
 have e0:List.replicate n (Value.int .u8 0)=bv8 (Tw.tx r n 0):=by
  unfold bv8 Tw.tx;rw[List.map_replicate];rfl
 rw[e0]at c3;obtain⟨g3,hg3⟩:∃g3,g3=w.heap.size+1:=⟨_,rfl⟩;rw[←hg3]at c3⊢;have l3:w.heap.size<g3:=by omega
 clear hg3 hown hgr b2 hz e0;have H2:=Hid.mkt (And.intro bx (And.intro c3 bw));have x1:=bx.cell 1 rfl;clear bx c3 bw;go_wp2
 go_loopw [5,4] (fun s v wr=>∃i:Nat,i≤n∧s=.int .i64 i∧wr.ownsRow w2.heap.size 3 1 v i (pli (List.range i) [])∧Below w2.heap.size w2 wr) (fun s _ _=>n-(intOf s).toNat)
 case atStart=>exact⟨0,Nat.zero_le _,rfl,World.ownsRow_nil _ _ _ _,Below.refl _ _⟩
 case round=>
  obtain⟨i,hin,rfl,own4,jb⟩:=hrel;obtain⟨a4,c4,rfl,hc4, -⟩:=Ap.owns_shape own4;have x1':=((H2.out.1.kept jb).cell 1 rfl);clear x1;by_cases hlt:i<n
  ·have hlt2:(i:Int)<(n:Int):=by omega
   have bs:=Hid.mkt (pli_snoc' i []);have bA:=below_alloc wr (.cells #[.int .i64 (i:Int)] 3);have own3:=Ap.owns_below own4 bA
   have src3:(wr.alloc (.cells #[.int .i64 (i:Int)] 3)).cell? ⟨wr.heap.size,0,none⟩=some (.int .i64 (i:Int)):=(Cel.new wr [.int .i64 (i:Int)] 3).cell 0 rfl;have jb3:=jb.trans (bA.mono jb.size)
   have g3':w2.heap.size≤(wr.alloc (.cells #[.int .i64 (i:Int)] 3)).heap.size:=jb3.size;clear bA own4 jb;generalize pli (List.range i) []=L4 at *
   go_wp2_with (at_builtin;refine Ap.wpList_append_u rfl _ _ 35 rfl w2.heap.size 3 i3 (.int .i64 0) 8 Tryz.underlying35 hi3 za3 zb3 zc3 rfl (.slice a4 i c4) i L4 rfl own3 (some ⟨wr.heap.size,0,none⟩) 1 1 [.int .i64 (i:Int)] rfl rfl ?d1 ?d2 ?d3 ?d4 ?d5 ?_)
   case d1=>exact fun _=>⟨_,rfl,fun j u hj=>by
    match j,hj with
    | 0,hj=>simp at hj;subst hj;exact src3⟩
   case d2=>intro u hu;simp at hu;subst hu;rfl
   case d3=>unfold maxLen;omega
   case d4=>omega
   case d5=>exact g3'
   intro so sc w4 own4 hle4 hB4;have HO:=Hid.mkt (And.intro own4 (jb3.trans hB4));clear own4 own3 hB4 jb3 src3 g3' x1';go_wp2;refine⟨⟨i+1,by omega,by go_num,?_,HO.out.2⟩,by simp only[intOf];omega⟩;rw[←bs.out]
   exact HO.out.1
  ·obtain rfl:i=n:=by omega
   have hoi:=oi_own own4;rw[←plc_root r i]at hoi;obtain⟨bx,c3,bw⟩:=H2.out;replace bx:=bx.kept jb;replace c3:=c3.kept jb;replace bw:=bw.trans (jb.mono bw.size)
   have H3:=Hid.mkt (And.intro hoi (And.intro bx (And.intro c3 bw)));clear own4 jb hoi bx c3 bw H2;go_wp2;clear x1'
   go_loopw [6,4] (fun s v wr=>∃(q:Nat) (oo:Option Addr) (oc:Nat),q≤8∧s=.int .i64 q∧v=.slice oo i oc∧Hid (∀l,l<q→kBN (lw x l)=(i:Int))∧Oi wr oo i (Tw.plc (Tw.tx r i q) q)∧Cel wr w.heap.size [.int .i64 K,.int .i64 (i:Int),.slice (some ⟨b,off,none⟩) 8 cap] 26∧Cel wr g3 (bv8 (Tw.tx r i q)) 5∧Below w.heap.size w wr) (fun s _ _=>8-(intOf s).toNat)
   case atStart=>exact⟨0,_,_,Nat.zero_le _,rfl,rfl,fun l hl=>absurd hl (by omega),H3.out⟩
   case round=>
    obtain⟨q,oo,oc,hq,rfl,rfl,HA,ho,hx,h3,hw⟩:=hrel;clear H3;by_cases hi:q<8
    ·have hi2:(q:Int)<8:=by omega
     obtain⟨cs,X,M,rg,HL0,hX,BI0⟩:=CO.out q hi;have HL:=Hid.mkt HL0;have BI:=Hid.mkt BI0;have HX:=Hid.mkt hX;have rg2:=range_keep rg hw hbl;have x2:=hx.cell 2 rfl;clear CO HL0 BI0 hX rg
     go_wp2_with (refine load_part b (off+q*22) cs (by rfl) rfl rg2 Tryz.underlying45 HL.out ?_);refine(BI.out _ hw).mono ?_;rintro e w3 ⟨bo,bc,rfl,wd,hb3⟩;replace hx:=hx.kept hb3;replace h3:=h3.kept hb3
     replace ho:=ho.keep hb3;replace hw:=hw.trans (hb3.mono hw.size);clear hb3 rg2 x2 BI;have c7:=Cel.new w3 [.int .i64 M,.slice bo X.length bc] 33
     have b7:=below_alloc w3 (.cells [.int .i64 M,.slice bo X.length bc].toArray 33);have l37:g3<w3.heap.size:=h3.lt;replace hx:=hx.kept b7;replace h3:=h3.kept b7;replace ho:=ho.keep b7;replace wd:=wd.keep b7
     replace hw:=hw.trans (b7.mono hw.size);clear b7;have z0:=c7.cell 0 rfl;have z1:=c7.cell 1 rfl;have x1:=hx.cell 1 rfl;by_cases dM:M=(i:Int);rotate_left
     ·have dM2:(M != (i:Int))=true:=by simp[dM]
      have E:Hid (Z=[]):=ZB.out ⟨q,hi,by rw[←HX.out.1];exact dM⟩;clear hx h3 ho wd c7;go_wp2;go_ret;rw[E.out];exact rbt0 hw
     have HM:=Hid.mkt (show ∀l,l<q+1→kBN (lw x l)=(i:Int)from fun l hl=>by
      by_cases e:l=q
      ·rw[e,←HX.out.1];exact dM
      ·exact HA.out l (by omega))
     have HXX:=Hid.mkt (HX.out.2 dM);clear HX HA;subst dM;rw[←Tw.tm_zero]at h3;have WQ:=shl7 q hi;obtain⟨kk,hk⟩:∃kk,7-q=kk:=⟨_,rfl⟩
     have mk:IntKind.i64.wrap (7-(q:Int))=(kk:Int):=by rw[IntKind.wrap_i64];omega
     have hk0:(0:Int)≤(kk:Int):=by omega
     have hk8:(kk:Int)<8:=by omega
     have HI:=Hid.mkt (And.intro hx (And.intro h3 (And.intro c7 (And.intro ho (And.intro wd hw)))));clear hx h3 c7 ho wd hw;go_wp2;clear z0 z1 x1
     go_loopw [8] (fun s wr=>∃j:Nat,j≤i∧s=.int .i64 j∧Cel wr w.heap.size [.int .i64 K,.int .i64 (i:Int),.slice (some ⟨b,off,none⟩) 8 cap] 26∧Cel wr g3 (bv8 (Tw.tm r i q j)) 5∧Cel wr w3.heap.size [.int .i64 (i:Int),.slice bo X.length bc] 33∧Oi wr oo i (Tw.plc (Tw.tx r i q) q)∧Wd wr bo X∧Below w.heap.size w wr) (fun s _=>i-(intOf s).toNat)
     case atStart=>exact⟨0,Nat.zero_le _,rfl,HI.out⟩
     case round=>
      obtain⟨j,hji,rfl,jx,j3,j7,jo,jd,jw⟩:=hrel;clear HI;by_cases hlt:j<i
      ·have hlt2:(j:Int)<(i:Int):=by omega
       have hpl:=Tw.length_plc (Tw.tx r i q) q (by omega) (Tw.byt_tx r i q (by omega));rw[Tw.length_tx]at hpl;obtain⟨y,hy0⟩:∃y,(Tw.plc (Tw.tx r i q) q)[j]?=some y:=⟨_,List.getElem?_eq_getElem (by omega)⟩
       have HY:=Hid.mkt hy0;obtain⟨hy,ey⟩:=Tw.tm_gt r i q j y hi hy0;obtain⟨hxl,hxb⟩:=HXX.out j hlt
       have AT:Hid (∀w0,Wd w0 bo X→Calls Tryz.prog 31 #[.agg #[.int .i64 (i:Int),.slice bo X.length bc],.int .i64 (j:Int)] w0 fun e w'=>e=.returned (.bool (r q j))∧Below w0.heap.size w0 w'):=fun w0 h=>by
        have:=at_c (i:Int) bo X bc j w0 h hxl (by omega);rw[hxb]at this;exact this
       have z0:=j7.cell 0 rfl;have z1:=j7.cell 1 rfl;have hyt:gt (Tw.tx r i q) y<256:=Tw.byt_tx r i q (by omega) y;have HS0:=Tw.tm_set r i q j y hi hy0;have HK0:=Tw.tm_skip r i q j hi
       have H8:=or8 ⟨gt (Tw.tx r i q) y,hyt⟩ ⟨q,hi⟩;dsimp only at H8;rw[ey]at HS0;obtain⟨gg,rfl, -, -, -⟩:=jo j y hlt hy0;clear hpl hy0 hxl hxb;generalize gt (Tw.tx r i q) y=C at *;rw[hk]at H8 HS0 WQ
       generalize (2:Nat)^kk=W at *;have hy2:(y:Int)<(i:Int):=by omega
       go_wp2_with fail;refine(AT.out _ jd).mono ?_;rintro e w6 ⟨rfl,hb6⟩;replace jx:=jx.kept hb6;replace j3:=j3.kept hb6;replace j7:=j7.kept hb6;replace jo:=jo.keep hb6;replace jd:=jd.keep hb6
       replace jw:=jw.trans (hb6.mono jw.size);clear hb6 z0 z1 AT;cases hri:r q j with
       | true=>
        have HS:=HS0 hri
        have c3':Cel (w6.drew.setCell ⟨g3,y,none⟩ (.int .u8 ((C|||W:Nat):Int))) g3 (bv8 (Tw.tm r i q (j+1))) 5:=by
         have:=j3.drew.set y (.int .u8 ((C|||W:Nat):Int));rw[bv8_set,HS]at this;exact this
        have o3:Only g3 w6.drew (w6.drew.setCell ⟨g3,y,none⟩ (.int .u8 ((C|||W:Nat):Int))):=(Only.refl _ _).set y _
        have jod:Oi w6.drew (some ⟨gg,0,none⟩) i (Tw.plc (Tw.tx r i q) q):=jo.keep (Below.refl _ _).drew;have l37':g3≠w3.heap.size:=by omega
        have HF:=Hid.mkt (And.intro (o3.cel jx.drew (by omega)) (And.intro c3' (And.intro (o3.cel j7.drew (by omega)) (And.intro (jod.only j3.drew o3) (And.intro (o3.wd (jd.keep (Below.refl _ _).drew) ((jd.keep (Below.refl _ _).drew).apart j3.drew (nou_bv8 _))) (jw.drew.trans (o3.below (by omega))))))))
        have hS:Cel w6.drew g3 (bv8 (Tw.tm r i q j)) 5∧Oi w6.drew (some ⟨gg,0,none⟩) i (Tw.plc (Tw.tx r i q) q):=⟨j3,jod⟩;clear c3' o3 HS HS0 HK0 jx j3 j7 jo jd jw hri jod l37';go_wp2
        refine region_g [18] (fun w'=>Cel w' g3 (bv8 (Tw.tm r i q j)) 5∧Oi w' (some ⟨gg,0,none⟩) i (Tw.plc (Tw.tx r i q) q)) (by kernel_rfl) ?_
        generalize w6.drew=V at *;refine AnyG.tk 0 hS ?_;refine AnyG.tk 1 hS ?_;refine AnyG.tk 2 hS ?_;refine AnyG.tk 3 hS ?_
        refine AnyG.tf 4 hS rfl (fun w0 h0=>by obtain⟨g9,e1,_,_,e4⟩:=h0.2 j y hlt HY.out;cases e1;go_simp;try with_reducible rfl) ?_;refine AnyG.tk 5 hS ?_;refine AnyG.tk 6 hS ?_;refine AnyG.tk 7 hS ?_
        refine AnyG.tk 8 hS ?_;refine AnyG.tf 9 hS rfl (fun w0 h0=>by obtain⟨g9,e1,_,_,e4⟩:=h0.2 j y hlt HY.out;cases e1;go_simp;try with_reducible rfl) ?_;refine AnyG.tk 10 hS ?_
        refine AnyG.tf 11 hS rfl (fun w0 h0=>by have c1:=h0.1.cell y (bv8_get _ y (by rw[Tw.length_tm];exact hy));rw[ey]at c1;go_simp;try with_reducible rfl) ?_;refine AnyG.tk 12 hS ?_;refine AnyG.tk 13 hS ?_
        refine AnyG.tk 14 hS ?_;refine AnyG.tk 15 hS ?_;refine AnyG.tk 16 hS ?_;refine AnyG.tk 17 hS ?_;refine AnyG.o1 18 ?_;intro K hK;have c1:=hS.1.cell y (bv8_get _ y (by rw[Tw.length_tm];exact hy))
        have f1:=hS.1.frozen y;go_simp;refine hK.out _ _ (fun h=>absurd (by decide) h) ?_;clear hK K;try simp only[Act.put,yq0,yq1,yq2,yq3,yq4,yq5]
        refine AnyG.done (by kernel_rfl) ?_ _;clear hS c1 f1;go_wp2;refine⟨⟨j+1,by omega,by go_num,?_⟩,by simp only[intOf];omega⟩;first | exact HF.out | (rw[WQ,H8];exact HF.out)
       | false=>
        have HK:=HK0 hri;rw[HK]at j3;have HF:=Hid.mkt (And.intro jx (And.intro j3 (And.intro j7 (And.intro jo (And.intro jd jw)))));clear jx j3 j7 jo jd jw HS0 H8 HK HK0 hri ey;go_wp2
        exact⟨⟨j+1,by omega,by go_num,HF.out⟩,by simp only[intOf];omega⟩
      ·obtain rfl:j=i:=by omega
       rw[Tw.tm_all r _ q hi]at j3;have ql:IntKind.i64.wrap ((q:Int)+1)=((q+1:Nat):Int):=by rw[IntKind.wrap_i64];omega
       have SO:Hid (∀w0,Cel w0 g3 (bv8 (Tw.tx r j (q+1))) 5→Calls Tryz.prog 132 #[.slice (some ⟨g3,0,none⟩) j j,.int .i64 ((q+1:Nat):Int)] w0 fun e w'=>∃v,e=.returned v∧w'.ownsRow w0.heap.size 3 1 v j (pli (Tw.plc (Tw.tx r j (q+1)) (q+1)) (Tw.tx r j (q+1)))∧Below w0.heap.size w0 w'):=fun w0 hc=>by
        have:=rsorted_c (some ⟨g3,0,none⟩) (Tw.tx r j (q+1)) j (q+1) w0 (bd_cel hc) (Tw.byt_tx r j (q+1) (by omega)) (by omega) (by rw[Tw.length_tx];omega)
        rw[Tw.length_plc _ _ (by omega) (Tw.byt_tx r j (q+1) (by omega)),Tw.length_tx]at this;exact this
       clear j7 jo jd hk;go_wp2_with fail;refine(SO.out _ j3).mono ?_;rintro e w9 ⟨v9,rfl,own9,hb9⟩;obtain⟨a9,c9,rfl, -, -⟩:=Ap.owns_shape own9
       have HF:=Hid.mkt (And.intro (oi_own own9) (And.intro (jx.kept hb9) (And.intro (j3.kept hb9) (jw.trans (hb9.mono jw.size)))));clear own9 hb9 jx j3 jw SO;go_wp2
       exact⟨⟨q+1,a9,c9,by omega,by go_num,rfl,HM.out,HF.out⟩,by simp only[intOf];omega⟩
    ·obtain rfl:q=8:=by omega
     have E:Hid (Z=Tw.tx r i 8):=ZG.out HA.out;have HF:=Hid.mkt (And.intro (bd_cel h3) hw);have eL:Hid ((Tw.tx r i 8).length=i):=Tw.length_tx r i 8;clear CO ho hx h3 hw;go_wp2;go_ret;rw[E.out]
     exact⟨_,_,by rw[eL.out];rfl,HF.out.1,by rw[eL.out];exact Nat.le_refl _,HF.out.2⟩
theorem rX_ok{x:TR}{t:List Nat}(h:TT x t):rX x=t:=by
 unfold rX;rw[rAll_yes h.e (by have:=h.n;have:=h.h;omega) (fun l hl=>by rw[(h.r l hl).2.2.1,h.n]),if_pos rfl,h.txt]
theorem rwhole_ok(lo:Option Addr)(cap:Nat)(k:Int)(t:List Nat)(w:World)(h:TI w lo cap (tB k t))(h1:1≤k)(h3:k≤3)(hB:Tw.Byt t)(hn:t.length≤3000):
  Calls Tryz.prog 45 #[.agg #[.int .i64 (tB k t).K,.int .i64 (tB k t).N,.slice lo (tB k t).av.length cap]] w fun e w'=>∃bo bc,e=.returned (.tuple #[.slice bo t.length bc,.bool true])∧Bd w' bo t∧Below w.heap.size w w':=by
 have htt:=tt_tB k t h1 h3 hB hn;have hK:I64 k:=⟨by omega,by omega⟩;obtain⟨A,hA⟩:∃A,A=tB k t:=⟨_,rfl⟩;rw[←hA]at htt h⊢
 have RW:Hid (∀w0,Below w.heap.size w w0→Calls Tryz.prog 80 #[.agg #[.int .i64 A.K,.int .i64 A.N,.slice lo A.av.length cap]] w0 fun e w'=>∃bo bc,e=.returned (.slice bo t.length bc)∧Bd w' bo t∧Below w0.heap.size w0 w'):=fun w0 hb=>by
  have:=rrow_c lo cap A w0 (h.keep hb);rw[rX_ok htt]at this;refine this.mono ?_;rintro e w' ⟨bo,bc,rfl,g1,_,g2⟩;exact⟨bo,bc,rfl,g1,g2⟩
 have BU:Hid (∀w0 bo bc,Bd w0 bo t→GV w0→Calls Tryz.prog 14 #[.int .i64 A.K,.slice bo t.length bc] w0 fun e w'=>∃l2 c2,e=.returned (.tuple #[.agg #[.int .i64 A.K,.int .i64 A.N,.slice l2 A.av.length c2],.int .i64 0])∧TI w' l2 c2 A∧Below w0.heap.size w0 w'):=fun w0 bo bc hb g0=>by
  have:=rbuild_t k bo t bc w0 hK hb hB hn g0;rw[(tBx_ok k t h1 h3).1,(tBx_ok k t h1 h3).2,←hA]at this;rw[show A.K=k by rw[hA];rfl]at this⊢;exact this
 have SA:Hid (∀w0 l2 c2,TI w0 lo cap A→TI w0 l2 c2 A→Calls Tryz.prog 15 #[.agg #[.int .i64 A.K,.int .i64 A.N,.slice lo A.av.length cap],.agg #[.int .i64 A.K,.int .i64 A.N,.slice l2 A.av.length c2]] w0 fun e w'=>e=.returned (.bool true)∧Below w0.heap.size w0 w'):=fun w0 l2 c2 g1 g2=>rsame_eq lo l2 cap c2 A w0 g1 g2 (by rw[htt.e];decide)
 have HI:=Hid.mkt h;have HG:=Hid.mkt h.gv;have bx:=Cel.new w [.int .i64 A.K,.int .i64 A.N,.slice lo A.av.length cap] 26;have bw:=below_alloc w (.cells #[.int .i64 A.K,.int .i64 A.N,.slice lo A.av.length cap] 26)
 clear h htt hA;obtain⟨m,hm⟩:∃m,Hid (m=t.length):=⟨_,rfl⟩;rw[←hm.out]at RW BU⊢;obtain⟨K,hK'⟩:∃K,Hid (K=A.K):=⟨_,rfl⟩;obtain⟨N,hN'⟩:∃N,Hid (N=A.N):=⟨_,rfl⟩
 obtain⟨a,ha'⟩:∃a,Hid (a=A.av.length):=⟨_,rfl⟩;rw[←hK'.out,←hN'.out,←ha'.out]at RW SA bx bw⊢;rw[←hK'.out,←hN'.out,←ha'.out]at BU;go_enter Tryz.func45,Tryz.ntmps45;go_wp2_with fail
 refine(RW.out _ bw).mono ?_;rintro e w1 ⟨bo,bc,rfl,hd,hb⟩;replace bx:=bx.kept hb;replace bw:=bw.trans (hb.mono bw.size);clear hb RW;have x0:=bx.cell 0 rfl;go_wp2_with fail
 refine(BU.out _ _ _ hd (HG.out.kept bw)).mono ?_;rintro e w2 ⟨l2,c2,rfl,hT,hb⟩;replace bx:=bx.kept hb;replace bw:=bw.trans (hb.mono bw.size);replace hd:=hd.keep hb;clear hb BU x0
 have b3:=below_alloc w2 (.cells #[.int .i64 K,.int .i64 N,.slice l2 a c2] 26);have hT3:=hT.keep b3;replace bx:=bx.kept b3;replace bw:=bw.trans (b3.mono bw.size);replace hd:=hd.keep b3;have hI3:=HI.out.keep bw
 clear hT b3;have x0:=bx.cell 0 rfl;have x1:=bx.cell 1 rfl;have x2:=bx.cell 2 rfl;go_wp2_with fail;refine(SA.out _ _ _ hI3 hT3).mono ?_;rintro e w4 ⟨rfl,hb⟩;replace bw:=bw.trans (hb.mono bw.size);replace hd:=hd.keep hb
 clear hb SA x0 x1 x2 bx hI3 hT3;go_wp2;go_ret2;exact⟨_,_,rfl,hd,bw⟩
theorem byt_nil:Tw.Byt []:=fun i=>by unfold gt;simp
theorem rX_byt(x:TR):Tw.Byt (rX x):=by
 unfold rX;split
 ·exact Tw.byt_tx _ _ _ (by omega)
 ·exact byt_nil
theorem rwhole_err(lo:Option Addr)(cap:Nat)(x:TR)(w:World)(h:TI w lo cap x)(hE:tbE x.K≠0)(hn:(rX x).length≤3000):
  Calls Tryz.prog 45 #[.agg #[.int .i64 x.K,.int .i64 x.N,.slice lo x.av.length cap]] w fun e w'=>e=.returned (.tuple #[.slice none 0 0,.bool false])∧Below w.heap.size w w':=by
 have hK:=h.k
 have RW:Hid (∀w0,Below w.heap.size w w0→Calls Tryz.prog 80 #[.agg #[.int .i64 x.K,.int .i64 x.N,.slice lo x.av.length cap]] w0 fun e w'=>∃bo bc,e=.returned (.slice bo (rX x).length bc)∧Bd w' bo (rX x)∧Below w0.heap.size w0 w'):=fun w0 hb=>by
  refine(rrow_c lo cap x w0 (h.keep hb)).mono ?_;rintro e w' ⟨bo,bc,rfl,g1,_,g2⟩;exact⟨bo,bc,rfl,g1,g2⟩
 have BU:Hid (∀w0 bo bc,Bd w0 bo (rX x)→GV w0→Calls Tryz.prog 14 #[.int .i64 x.K,.slice bo (rX x).length bc] w0 fun e w'=>∃l2 c2,e=.returned (.tuple #[.agg #[.int .i64 0,.int .i64 0,.slice l2 0 c2],.int .i64 (tbE x.K)])∧Below w0.heap.size w0 w'):=fun w0 bo bc hb g0=>by
  have:=rbuild_t x.K bo (rX x) bc w0 hK hb (rX_byt x) hn g0;have e:tBx x.K (rX x)=⟨0,0,[]⟩:=by unfold tBx;rw[if_neg hE]
  rw[e]at this;refine this.mono ?_;rintro e w' ⟨l2,c2,rfl,_,g2⟩;exact⟨l2,c2,rfl,g2⟩
 have bx:=Cel.new w [.int .i64 x.K,.int .i64 x.N,.slice lo x.av.length cap] 26;have bw:=below_alloc w (.cells #[.int .i64 x.K,.int .i64 x.N,.slice lo x.av.length cap] 26);have hE2:(tbE x.K != 0)=true:=by simp[hE]
 obtain⟨R,hR⟩:∃R,Hid (R=rX x):=⟨_,rfl⟩;rw[←hR.out]at RW BU;have HG:=Hid.mkt h.gv;clear h hE hn;generalize tbE x.K=E at *;generalize x.K=K at *;generalize x.N=N at *;generalize x.av.length=a at *
 go_enter Tryz.func45,Tryz.ntmps45;go_wp2_with fail;refine(RW.out _ bw).mono ?_;rintro e w1 ⟨bo,bc,rfl,hd,hb⟩;replace bx:=bx.kept hb;replace bw:=bw.trans (hb.mono bw.size);clear hb RW;have x0:=bx.cell 0 rfl
 go_wp2_with fail;refine(BU.out _ _ _ hd (HG.out.kept bw)).mono ?_;rintro e w2 ⟨l2,c2,rfl,hb⟩;replace bw:=bw.trans (hb.mono bw.size);have b3:=below_alloc w2 (.cells #[.int .i64 0,.int .i64 0,.slice l2 0 c2] 26)
 replace bw:=bw.trans (b3.mono bw.size);clear hb BU x0 hd bx b3;go_wp2;go_ret2;exact⟨rfl,bw⟩
theorem rcheck_g(x:TR)(lo:Option Addr)(cap:Nat)(ok:Bool)(w:World)(H:∀w0,Below w.heap.size w w0→Calls Tryz.prog 45 #[.agg #[.int .i64 x.K,.int .i64 x.N,.slice lo x.av.length cap]] w0 fun e w'=>∃bo n bc,e=.returned (.tuple #[.slice bo n bc,.bool ok])∧Below w0.heap.size w0 w'):
  Calls Tryz.prog 24 #[.agg #[.int .i64 x.K,.int .i64 x.N,.slice lo x.av.length cap]] w fun e w'=>e=.returned (.bool ok)∧Below w.heap.size w w':=by
 have H:=Hid.mkt H;have bw:=below_alloc w (.cells #[.int .i64 x.K,.int .i64 x.N,.slice lo x.av.length cap] 26);generalize x.K=K at *;generalize x.N=N at *;generalize x.av.length=a at *
 go_enter Tryz.func24,Tryz.ntmps24;go_wp2_with fail;refine(H.out _ bw).mono ?_;rintro e w1 ⟨bo,n,bc,rfl,hb⟩;replace bw:=bw.trans (hb.mono bw.size);go_wp2;go_ret;exact⟨rfl,bw⟩
theorem tOk_none:tOk ⟨0,0,[]⟩=false:=rfl
theorem rcheck_t(k:Int)(lo:Option Addr)(cap:Nat)(t:List Nat)(w:World)(h:TI w lo cap (tBx k t))(hB:Tw.Byt t)(hn:t.length≤3000):
  Calls Tryz.prog 24 #[.agg #[.int .i64 (tBx k t).K,.int .i64 (tBx k t).N,.slice lo (tBx k t).av.length cap]] w fun e w'=>e=.returned (.bool (tOk (tBx k t)))∧Below w.heap.size w w':=by
 by_cases c:1≤k∧k≤3
 ·rw[(tBx_ok k t c.1 c.2).1]at h⊢;rw[(tt_tB k t c.1 c.2 hB hn).ok];refine rcheck_g _ lo cap true w fun w0 hb=>(rwhole_ok lo cap k t w0 (h.keep hb) c.1 c.2 hB hn).mono ?_;rintro e w' ⟨bo,bc,rfl,_,g⟩
  exact⟨_,_,_,rfl,g⟩
 ·have e:tBx k t=⟨0,0,[]⟩:=by
   unfold tBx tbE;rw[if_neg c];rfl
  rw[e]at h⊢;rw[tOk_none];refine rcheck_g _ lo cap false w fun w0 hb=>(rwhole_err lo cap ⟨0,0,[]⟩ w0 (h.keep hb) (by decide) (by decide)).mono ?_;rintro e w' ⟨rfl,g⟩;exact⟨_,_,_,rfl,g⟩
theorem rsize_g(lo:Option Addr)(cap:Nat)(x:TR)(w:World)(h:TI w lo cap x)(CK:∀w0,Below w.heap.size w w0→Calls Tryz.prog 24 #[.agg #[.int .i64 x.K,.int .i64 x.N,.slice lo x.av.length cap]] w0 fun e w'=>e=.returned (.bool (tOk x))∧Below w0.heap.size w0 w'):
  Calls Tryz.prog 17 #[.agg #[.int .i64 x.K,.int .i64 x.N,.slice lo x.av.length cap]] w fun e w'=>e=.returned (.int .i64 (tZ x))∧Below w.heap.size w w':=by
 have CK:=Hid.mkt CK;have bx:=Cel.new w [.int .i64 x.K,.int .i64 x.N,.slice lo x.av.length cap] 26;have bw:=below_alloc w (.cells #[.int .i64 x.K,.int .i64 x.N,.slice lo x.av.length cap] 26);cases ok:tOk x with
 | false=>
  rw[ok]at CK;have r1:tZ x=0:=by unfold tZ;rw[ok];rfl
  rw[r1];clear h ok r1;generalize x.N=N at *;generalize x.K=K at *;generalize x.av.length=m at *;go_enter Tryz.func17,Tryz.ntmps17;go_wp2_with fail;refine(CK.out _ bw).mono ?_;rintro e w1 ⟨rfl,hb⟩
  replace bw:=bw.trans (hb.mono bw.size);clear hb bx;go_wp2;go_ret;exact⟨rfl,bw⟩
 | true=>
  have ht:=tt_of x ok;rw[ok]at CK;have r1:tZ x=sz x 8:=by unfold tZ;rw[ok];rfl
  obtain⟨Z,hZ⟩:∃Z,Hid (Z=sz x 8):=⟨_,rfl⟩;rw[r1,←hZ.out];obtain⟨b,off,rfl,hbl,_⟩:=h.l (by rw[ht.e];decide);have HTI:=Hid.mkt h;have HT:=Hid.mkt ht
  have CO:Hid (∀q,q<8→∃cs:List Value,w.rangeAt b (off+q*22) cs∧(Tryz.prog.info? 45).map (·.size)=some cs.length∧∀w0,Below w.heap.size w w0→Calls Tryz.prog 43 #[.agg cs.toArray] w0 fun r w'=>r=.returned (.int .i64 (kZ (lw x q)))∧Below w0.heap.size w0 w'):=fun q hq=>by
   obtain⟨cs,h1,h2,h3⟩:=row_at HTI.out HT.out q hq;exact⟨cs,h1,h3,fun w0 hb=>v10size_k cs (lw x q) w0 (h2.keep hb)⟩
  rw[ht.e]at bx bw CK⊢;clear h ht r1 ok;generalize x.K=K at *;generalize x.N=N at *;go_enter Tryz.func17,Tryz.ntmps17;go_wp2_with fail;refine(CK.out _ bw).mono ?_;rintro e w1 ⟨rfl,hb⟩
  replace bw:=bw.trans (hb.mono bw.size);replace bx:=bx.kept hb;clear hb CK;go_wp2
  go_loopw [4,3] (fun s v wr=>∃q:Nat,q≤8∧s=.int .i64 q∧v=.int .i64 (sz x q)∧Cel wr w.heap.size [.int .i64 K,.int .i64 N,.slice (some ⟨b,off,none⟩) 8 cap] 26∧Below w.heap.size w wr) (fun s _ _=>8-(intOf s).toNat)
  case atStart=>exact⟨0,Nat.zero_le _,rfl,rfl,bx,bw⟩
  case round=>
   obtain⟨q,hq,rfl,rfl,hx,hb⟩:=hrel;clear bx bw;have x2:=hx.cell 2 rfl;by_cases hi:q<8
   ·have hi2:(q:Int)<8:=by omega
    obtain⟨cs,rg,HL,C⟩:=CO.out q hi;have HL:=Hid.mkt HL;have C:=Hid.mkt C;have rg2:=range_keep rg hb hbl;have E:Hid (wrap64 (sz x q+kZ (lw x q))=sz x (q+1)):=rfl;generalize kZ (lw x q)=Y at *
    generalize sz x q=X at *;go_wp2_with (refine load_part b (off+q*22) cs (by rfl) rfl rg2 Tryz.underlying45 HL.out ?_);refine(C.out _ hb).mono ?_;rintro e w2 ⟨rfl,hb2⟩;replace hx:=hx.kept hb2
    replace hb:=hb.trans (hb2.mono hb.size);have HF:=Hid.mkt (And.intro hx hb);clear hx hb hb2 rg rg2 x2 CO;go_wp2;refine⟨⟨q+1,by omega,by go_num,?_,HF.out⟩,by simp only[intOf];omega⟩;rw[←E.out]
   ·obtain rfl:q=8:=by omega
    clear CO;rw[←hZ.out];go_wp2;go_ret;exact⟨rfl,hb⟩
theorem and_tt{a b:Bool}(ha:a=true)(hb:b=true):(a&&b)=true:=by rw[ha,hb];rfl
theorem trod_int1{W:World}{fuel:Nat}{t:TypeId}{k:IntKind}{cs:List Value}{y:DataW Unit×List MemPlace}(hu:Tryz.prog.underlying t=some (.int k))(h:DataW.trod (fun _=>()) Tryz.prog W 0 (fun _=>true) false fuel t cs=some y):∃n,cs=[.int k n]∧y.1=.lit (.int k n):=by
 cases fuel with
 | zero=>simp[DataW.trod]at h
 | succ fuel=>
  unfold DataW.trod at h;rw[hu]at h;match cs,h with
  | [.int k' n],h=>
   dsimp only at h;split at h
   ·rename_i hk;obtain⟨rfl,_⟩:=hk;cases h;exact⟨n,rfl,rfl⟩
   ·cases h
theorem mapM_get{α β:Type}(f:α→Option β):∀(L:List α) (ys:List β),L.mapM f=some ys→ys.length=L.length∧∀(i:Nat) a y,L[i]?=some a→ys[i]?=some y→f a=some y
 | [],ys,h=>by
  rw[List.mapM_nil]at h;cases h;exact⟨rfl,fun i a y e=>by simp at e⟩
 | b::L,ys,h=>by
  rw[List.mapM_cons]at h;simp only[Option.bind_eq_bind,Option.bind_eq_some_iff,Option.pure_def,Option.some.injEq]at h;obtain⟨z,h1,zs,h2,rfl⟩:=h;obtain⟨e1,e2⟩:=mapM_get f L zs h2
  refine⟨by simp[e1],fun i a y ha hy=>?_⟩;cases i with
  | zero=>simp at ha hy;subst ha;subst hy;exact h1
  | succ i=>exact e2 i a y (by simpa using ha) (by simpa using hy)
theorem trod_arr{W:World}{fuel n:Nat}{t e:TypeId}{k:IntKind}{cs:List Value}{l:List Int}{p:List MemPlace}(hu:Tryz.prog.underlying t=some (.array n e))(he:Tryz.prog.underlying e=some (.int k))(ce:Tryz.prog.cellsOf e=1)(ct:Tryz.prog.cellsOf t=n)
  (h:DataW.trod (fun _=>()) Tryz.prog W 0 (fun _=>true) false fuel t cs=some (.agg (l.map fun x=>.lit (.int k x)),p)):cs=l.map fun x=>.int k x:=by
 cases fuel with
 | zero=>simp[DataW.trod]at h
 | succ fuel=>
  unfold DataW.trod at h;rw[hu]at h;dsimp only at h;split at h
  ·rename_i hl;rw[Option.map_eq_some_iff]at h;obtain⟨ys,h1,h2⟩:=h;obtain⟨g1,g2⟩:=mapM_get _ _ _ h1;simp only[Prod.mk.injEq,DataW.agg.injEq]at h2;have hy:=h2.1
   have ll:l.length=n:=by
    have:=congrArg List.length hy;simp only[List.length_map]at this;rw[←this,g1,List.length_range]
   rw[ct]at hl;refine List.ext_getElem? fun i=>?_;by_cases hi:i<n
   ·obtain⟨y,ey⟩:∃y,ys[i]?=some y:=⟨_,List.getElem?_eq_getElem (by rw[g1,List.length_range];exact hi)⟩;have e3:=g2 i i y (List.getElem?_range hi) ey;obtain⟨m,e4,e5⟩:=trod_int1 he e3
    have e6:(ys.map (·.1))[i]?=some (.lit (.int k m)):=by rw[List.getElem?_map,ey];exact congrArg some e5
    rw[hy,List.getElem?_map]at e6;obtain⟨x,ex⟩:∃x,l[i]?=some x:=⟨_,List.getElem?_eq_getElem (by omega)⟩;rw[ex]at e6;simp only[Option.map_some,Option.some.injEq,DataW.lit.injEq,Lit.int.injEq,true_and]at e6
    rw[List.getElem?_map,ex,e6];rw[ce,Nat.mul_one]at e4;have e7:=congrArg (·[0]?) e4;simp only[List.getElem?_take_of_lt (Nat.one_pos),List.getElem?_drop,Nat.add_zero]at e7;exact e7
   ·rw[List.getElem?_eq_none (by omega),List.getElem?_eq_none (by rw[List.length_map];omega)]
  ·cases h
theorem cel_laid{W:World}{g:Nat}{nm:String}{cs:Array Value}{vs:List Value}(hg:Tryz.prog.globalNamed nm=some g)(hv:W.var? Tryz.prog nm=some cs)(hc:cs.toList=vs)(hm:∃c t,W.heap[g]?=some (.cells c t (0,0))):Tb W g vs:=by
 obtain⟨c,t,e⟩:=hm;refine⟨t,?_⟩;unfold World.var? at hv;rw[hg]at hv;simp only[Option.bind_some,e,Option.some.injEq]at hv;subst hv;unfold Cel;rw[e,←hc]
def laidL:List (String×DataW Unit):=[("errors.errorType",Rows.laid_errors_errorType),("haystack/rrr.ways",Rows.laid_haystack_rrr_ways),("haystack/rrr.widths",Rows.laid_haystack_rrr_widths)]
theorem gv_of_laid{W:World}(h:laidMetH Tryz.prog laidL W):GV W:=by
 have h0:laidMet Tryz.prog [("haystack/rrr.ways",Rows.laid_haystack_rrr_ways),("haystack/rrr.widths",Rows.laid_haystack_rrr_widths)] W:=And.left (show _∧_ from h)
 obtain⟨ps,⟨g,t,cs,fuel,p,q,hg,ht,hv,hd,⟨g2,t2,cs2,fuel2,p2,q2,hg2,ht2,hv2,hd2,hr,hq⟩,hps⟩,_,hm⟩:=h0;obtain rfl:q2=[]:=hr
 obtain rfl:=Option.some.inj ((show Tryz.prog.globalNamed "haystack/rrr.ways" =some 0 by kernel_rfl).symm.trans hg)
 obtain rfl:=Option.some.inj ((show Tryz.prog.globalNamed "haystack/rrr.widths" =some 1 by kernel_rfl).symm.trans hg2)
 obtain rfl:=Option.some.inj ((show(Tryz.prog.globals[0]?).map (·.type)=some 187 by kernel_rfl).symm.trans ht)
 obtain rfl:=Option.some.inj ((show(Tryz.prog.globals[1]?).map (·.type)=some 202 by kernel_rfl).symm.trans ht2)
 have e1:cs.toList=wv chL:=(trod_arr (l:=[1,15,105,455,1365,3003,5005,6435,6435,5005,3003,1365,455,105,15,1]) Tryz.underlying187 Tryz.underlying110 (by kernel_rfl) (by kernel_rfl) hd).trans rfl
 have e2:cs2.toList=vI wdL:=(trod_arr (l:=[0,4,7,9,11,12,13,13,13,13,12,11,9,7,4,0]) Tryz.underlying202 Tryz.underlying3 (by kernel_rfl) (by kernel_rfl) hd2).trans rfl
 have s1:cs.size=16:=by rw[←Array.length_toList,e1];rfl
 have s2:cs2.size=16:=by rw[←Array.length_toList,e2];rfl
 refine⟨cel_laid hg2 hv2 e2 (hm _ 0 ?_).1,cel_laid hg hv e1 (hm _ 0 ?_).1⟩
 ·rw[hps,hq,s2];exact List.mem_append_right _ (List.mem_append_left _ (List.mem_append_left _ (List.mem_map.2 ⟨0,List.mem_range.2 (by decide),rfl⟩)))
 ·rw[hps,s1];exact List.mem_append_left _ (List.mem_append_left _ (List.mem_map.2 ⟨0,List.mem_range.2 (by decide),rfl⟩))
end Go.Proofs.YtfnkklkdajlhlaaGreatDoor
