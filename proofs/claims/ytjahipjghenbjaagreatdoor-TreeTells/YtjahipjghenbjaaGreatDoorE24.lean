import Derived.Test.YtjahipjghenbjaaGreatDoorE23
set_option linter.unusedVariables false
set_option linter.unusedSimpArgs false
set_option maxRecDepth 100000
set_option maxHeartbeats 16000000
namespace Go.Proofs.YtjahipjghenbjaaGreatDoor
open Go.RowKit Num Bit
theorem check_r(cs:List Value)(a:RA)(w:World)(h:KI w cs a)(o8:kOn a=2):
  CR 47 #[.agg cs.toArray] w (.bool (kOk a)):=by
 have ON0:=fun(w0:World) (hb:Below w.heap.size w w0)=>only_c cs a w0 (h.arg.keep hb);have HL:=Hid.mk8 h.arg.len;have sm:=h.sm;replace h:=h.arg;obtain⟨cp,cr,cf,rfl,hK,h1,h2,h3⟩:=h;have l4:=Hid.mk8 h1.four
 have l9:=Hid.mk8 h2.nine;have LP:=Hid.mk8 h1.len;have LR:=Hid.mk8 h2.len;have LF:=Hid.mk8 h3.len;obtain⟨K,p,r,f⟩:=a;dsimp only at *;have k7:KI7 w cp p:=⟨h1,sm.p1,sm.p2,sm.p3⟩
 have k8:KI8 w cr r:=⟨h2,sm.r1,sm.r2,sm.r3,sm.r4⟩;have k9:KI9 w cf f:=⟨h3,sm.f0,sm.f1,sm.f2⟩
 have ON:Hid (CB w 62 #[.agg (Value.int .i64 K::(cp++(cr++cf))).toArray] (.int .i64 (kOn ⟨K,p,r,f⟩))):=ON0
 clear ON0 h1 h2 h3 sm;obtain⟨W,hW⟩:∃W,W=w.alloc (.cells (Value.int .i64 K::(cp++(cr++cf))).toArray 45):=⟨_,rfl⟩;have bw:Below w.heap.size w W:=by rw[hW];exact below_alloc w _
 have B0:=yc1 hW;subst hW;obtain⟨e1,e2,e3,e4⟩:=on_r o8;rw[e1];rw[o8]at ON
 have C:Hid (CB w 85 #[.agg cr.toArray] (.bool (kOk8 r))):=fun w0 g=>check_k8 cr r w0 (k8.keep g);clear e1 e2 e3 e4 k7 k8 k9
 generalize kOk8 r=P0 at *;go_enter Tryz.func47,Tryz.ntmps47;go_wp2_with (refine load_obj w.heap.size _ (by rfl) rfl B0 Tryz.underlying45 HL.out ?_);refine mr (ON.out _ bw) fun w1 hb=>?_;replace B0:=B0.kept hb
 replace bw:=bg bw hb;clear hb;obtain⟨c0,p1,p2,p3⟩:=parts l4.out l9.out B0;go_wp2_with (refine load_part w.heap.size 5 cr (by rfl) rfl p2 Tryz.underlying41 LR.out ?_);refine mr (C.out _ bw) fun w2 hb=>?_;replace bw:=bg bw hb;go_wp2;go_ret;exact⟨rfl,bw⟩
theorem check_k(cs:List Value)(a:RA)(w:World)(h:KI w cs a):
  CR 47 #[.agg cs.toArray] w (.bool (kOk a)):=by
 by_cases o8:kOn a=2
 ·exact check_r cs a w h o8
 have ON0:=fun(w0:World) (hb:Below w.heap.size w w0)=>only_c cs a w0 (h.arg.keep hb);have HL:=Hid.mk8 h.arg.len;have sm:=h.sm;replace h:=h.arg;obtain⟨cp,cr,cf,rfl,hK,h1,h2,h3⟩:=h;have l4:=Hid.mk8 h1.four
 have l9:=Hid.mk8 h2.nine;have LP:=Hid.mk8 h1.len;have LR:=Hid.mk8 h2.len;have LF:=Hid.mk8 h3.len;obtain⟨K,p,r,f⟩:=a;dsimp only at *;have k7:KI7 w cp p:=⟨h1,sm.p1,sm.p2,sm.p3⟩
 have k8:KI8 w cr r:=⟨h2,sm.r1,sm.r2,sm.r3,sm.r4⟩;have k9:KI9 w cf f:=⟨h3,sm.f0,sm.f1,sm.f2⟩
 have ON:Hid (CB w 62 #[.agg (Value.int .i64 K::(cp++(cr++cf))).toArray] (.int .i64 (kOn ⟨K,p,r,f⟩))):=ON0
 clear ON0 h1 h2 h3 sm;obtain⟨W,hW⟩:∃W,W=w.alloc (.cells (Value.int .i64 K::(cp++(cr++cf))).toArray 45):=⟨_,rfl⟩;have bw:Below w.heap.size w W:=by rw[hW];exact below_alloc w _
 have B0:=yc1 hW;subst hW;by_cases o7:kOn ⟨K,p,r,f⟩=1
 ·skip;obtain⟨e1,e2,e3,e4⟩:=on_p o7;rw[e1];rw[o7]at ON
  have C:Hid (CB w 84 #[.agg cp.toArray] (.bool (kOk7 p))):=fun w0 g=>check_k7 cp p w0 (k7.keep g);clear e1 e2 e3 e4 k7 k8 k9
  generalize kOk7 p=P0 at *;go_enter Tryz.func47,Tryz.ntmps47;go_wp2_with (refine load_obj w.heap.size _ (by rfl) rfl B0 Tryz.underlying45 HL.out ?_);refine mr (ON.out _ bw) fun w1 hb=>?_;replace B0:=B0.kept hb
  replace bw:=bg bw hb;clear hb;obtain⟨c0,p1,p2,p3⟩:=parts l4.out l9.out B0;go_wp2_with (refine load_part w.heap.size 1 cp (by rfl) rfl p1 Tryz.underlying37 LP.out ?_);refine mr (C.out _ bw) fun w2 hb=>?_;replace bw:=bg bw hb;go_wp2;go_ret;exact⟨rfl,bw⟩
 by_cases o9:kOn ⟨K,p,r,f⟩=3
 ·skip;obtain⟨e1,e2,e3,e4⟩:=on_f o9;rw[e1];rw[o9]at ON
  have C:Hid (CB w 86 #[.agg cf.toArray] (.bool (kOk9 f))):=fun w0 g=>check_k9 cf f w0 (k9.keep g);clear e1 e2 e3 e4 k7 k8 k9
  generalize kOk9 f=P0 at *;go_enter Tryz.func47,Tryz.ntmps47;go_wp2_with (refine load_obj w.heap.size _ (by rfl) rfl B0 Tryz.underlying45 HL.out ?_);refine mr (ON.out _ bw) fun w1 hb=>?_;replace B0:=B0.kept hb
  replace bw:=bg bw hb;clear hb;obtain⟨c0,p1,p2,p3⟩:=parts l4.out l9.out B0;go_wp2_with (refine load_part w.heap.size 14 cf (by rfl) rfl p3 Tryz.underlying43 LF.out ?_);refine mr (C.out _ bw) fun w2 hb=>?_;replace bw:=bg bw hb;go_wp2;go_ret;exact⟨rfl,bw⟩
 obtain⟨e1,e2,e3,e4⟩:=on_n o7 o8 o9;rw[e1];have d7:(kOn ⟨K,p,r,f⟩==1)=false:=by simp[o7]
 have d8:(kOn ⟨K,p,r,f⟩==2)=false:=by simp[o8]
 have d9:(kOn ⟨K,p,r,f⟩==3)=false:=by simp[o9]
 clear e1 e2 e3 e4 k7 k8 k9;generalize kOn ⟨K,p,r,f⟩=O at *;go_enter Tryz.func47,Tryz.ntmps47;go_wp2_with (refine load_obj w.heap.size _ (by rfl) rfl B0 Tryz.underlying45 HL.out ?_);refine mr (ON.out _ bw) fun w1 hb=>?_;replace B0:=B0.kept hb;replace bw:=bg bw hb;go_wp2;go_ret;exact⟨rfl,bw⟩
theorem size_r(cs:List Value)(a:RA)(w:World)(h:KI w cs a)(o8:kOn a=2):
  CR 42 #[.agg cs.toArray] w (.int .i64 (kZ a)):=by
 have ON0:=fun(w0:World) (hb:Below w.heap.size w w0)=>only_c cs a w0 (h.arg.keep hb);have HL:=Hid.mk8 h.arg.len;have sm:=h.sm;replace h:=h.arg;obtain⟨cp,cr,cf,rfl,hK,h1,h2,h3⟩:=h;have l4:=Hid.mk8 h1.four
 have l9:=Hid.mk8 h2.nine;have LP:=Hid.mk8 h1.len;have LR:=Hid.mk8 h2.len;have LF:=Hid.mk8 h3.len;obtain⟨K,p,r,f⟩:=a;dsimp only at *;have k7:KI7 w cp p:=⟨h1,sm.p1,sm.p2,sm.p3⟩
 have k8:KI8 w cr r:=⟨h2,sm.r1,sm.r2,sm.r3,sm.r4⟩;have k9:KI9 w cf f:=⟨h3,sm.f0,sm.f1,sm.f2⟩
 have ON:Hid (CB w 62 #[.agg (Value.int .i64 K::(cp++(cr++cf))).toArray] (.int .i64 (kOn ⟨K,p,r,f⟩))):=ON0
 clear ON0 h1 h2 h3 sm;obtain⟨W,hW⟩:∃W,W=w.alloc (.cells (Value.int .i64 K::(cp++(cr++cf))).toArray 45):=⟨_,rfl⟩;have bw:Below w.heap.size w W:=by rw[hW];exact below_alloc w _
 have B0:=yc1 hW;subst hW;obtain⟨e1,e2,e3,e4⟩:=on_r o8;rw[e4];rw[o8]at ON
 have C:Hid (CB w 74 #[.agg cr.toArray] (.int .i64 (kZ8 r))):=fun w0 g=>size_k8 cr r w0 (k8.keep g);clear e1 e2 e3 e4 k7 k8 k9
 generalize kZ8 r=P0 at *;go_enter Tryz.func42,Tryz.ntmps42;go_wp2_with (refine load_obj w.heap.size _ (by rfl) rfl B0 Tryz.underlying45 HL.out ?_);refine mr (ON.out _ bw) fun w1 hb=>?_;replace B0:=B0.kept hb
 replace bw:=bg bw hb;clear hb;obtain⟨c0,p1,p2,p3⟩:=parts l4.out l9.out B0;go_wp2_with (refine load_part w.heap.size 5 cr (by rfl) rfl p2 Tryz.underlying41 LR.out ?_);refine mr (C.out _ bw) fun w2 hb=>?_;replace bw:=bg bw hb;go_wp2;go_ret;exact⟨rfl,bw⟩
theorem size_k(cs:List Value)(a:RA)(w:World)(h:KI w cs a):
  CR 42 #[.agg cs.toArray] w (.int .i64 (kZ a)):=by
 by_cases o8:kOn a=2
 ·exact size_r cs a w h o8
 have ON0:=fun(w0:World) (hb:Below w.heap.size w w0)=>only_c cs a w0 (h.arg.keep hb);have HL:=Hid.mk8 h.arg.len;have sm:=h.sm;replace h:=h.arg;obtain⟨cp,cr,cf,rfl,hK,h1,h2,h3⟩:=h;have l4:=Hid.mk8 h1.four
 have l9:=Hid.mk8 h2.nine;have LP:=Hid.mk8 h1.len;have LR:=Hid.mk8 h2.len;have LF:=Hid.mk8 h3.len;obtain⟨K,p,r,f⟩:=a;dsimp only at *;have k7:KI7 w cp p:=⟨h1,sm.p1,sm.p2,sm.p3⟩
 have k8:KI8 w cr r:=⟨h2,sm.r1,sm.r2,sm.r3,sm.r4⟩;have k9:KI9 w cf f:=⟨h3,sm.f0,sm.f1,sm.f2⟩
 have ON:Hid (CB w 62 #[.agg (Value.int .i64 K::(cp++(cr++cf))).toArray] (.int .i64 (kOn ⟨K,p,r,f⟩))):=ON0
 clear ON0 h1 h2 h3 sm;obtain⟨W,hW⟩:∃W,W=w.alloc (.cells (Value.int .i64 K::(cp++(cr++cf))).toArray 45):=⟨_,rfl⟩;have bw:Below w.heap.size w W:=by rw[hW];exact below_alloc w _
 have B0:=yc1 hW;subst hW;by_cases o7:kOn ⟨K,p,r,f⟩=1
 ·skip;obtain⟨e1,e2,e3,e4⟩:=on_p o7;rw[e4];rw[o7]at ON
  have C:Hid (CB w 73 #[.agg cp.toArray] (.int .i64 (kZ7 p))):=fun w0 g=>size_k7 cp p w0 (k7.keep g)
  clear e1 e2 e3 e4 k7 k8 k9;generalize kZ7 p=P0 at *;go_enter Tryz.func42,Tryz.ntmps42;go_wp2_with (refine load_obj w.heap.size _ (by rfl) rfl B0 Tryz.underlying45 HL.out ?_);refine mr (ON.out _ bw) fun w1 hb=>?_
  replace B0:=B0.kept hb;replace bw:=bg bw hb;clear hb;obtain⟨c0,p1,p2,p3⟩:=parts l4.out l9.out B0;go_wp2_with (refine load_part w.heap.size 1 cp (by rfl) rfl p1 Tryz.underlying37 LP.out ?_)
  refine mr (C.out _ bw) fun w2 hb=>?_;replace bw:=bg bw hb;go_wp2;go_ret;exact⟨rfl,bw⟩
 by_cases o9:kOn ⟨K,p,r,f⟩=3
 ·skip;obtain⟨e1,e2,e3,e4⟩:=on_f o9;rw[e4];rw[o9]at ON
  have C:Hid (CB w 75 #[.agg cf.toArray] (.int .i64 (kZ9 f))):=fun w0 g=>size_k9 cf f w0 (k9.keep g)
  clear e1 e2 e3 e4 k7 k8 k9;generalize kZ9 f=P0 at *;go_enter Tryz.func42,Tryz.ntmps42;go_wp2_with (refine load_obj w.heap.size _ (by rfl) rfl B0 Tryz.underlying45 HL.out ?_);refine mr (ON.out _ bw) fun w1 hb=>?_
  replace B0:=B0.kept hb;replace bw:=bg bw hb;clear hb;obtain⟨c0,p1,p2,p3⟩:=parts l4.out l9.out B0;go_wp2_with (refine load_part w.heap.size 14 cf (by rfl) rfl p3 Tryz.underlying43 LF.out ?_)
  refine mr (C.out _ bw) fun w2 hb=>?_;replace bw:=bg bw hb;go_wp2;go_ret;exact⟨rfl,bw⟩
 obtain⟨e1,e2,e3,e4⟩:=on_n o7 o8 o9;rw[e4];have d7:(kOn ⟨K,p,r,f⟩==1)=false:=by simp[o7]
 have d8:(kOn ⟨K,p,r,f⟩==2)=false:=by simp[o8]
 have d9:(kOn ⟨K,p,r,f⟩==3)=false:=by simp[o9]
 clear e1 e2 e3 e4 k7 k8 k9;generalize kOn ⟨K,p,r,f⟩=O at *;go_enter Tryz.func42,Tryz.ntmps42;go_wp2_with (refine load_obj w.heap.size _ (by rfl) rfl B0 Tryz.underlying45 HL.out ?_);refine mr (ON.out _ bw) fun w1 hb=>?_;replace B0:=B0.kept hb;replace bw:=bg bw hb;go_wp2;go_ret;exact⟨rfl,bw⟩
theorem access_r(cs:List Value)(a:RA)(i:Int)(w:World)(h:KI w cs a)(hi:I64 i)(o8:kOn a=2):
  CR 32 #[.agg cs.toArray,.int .i64 i] w (.tuple #[.bool (gaB (kOk a) (kBN a) (kBX a) i),.int .i64 (gaE (kOk a) (kBN a) (kBX a) i)]):=by
 have ON0:=fun(w0:World) (hb:Below w.heap.size w w0)=>only_c cs a w0 (h.arg.keep hb);have HL:=Hid.mk8 h.arg.len;have sm:=h.sm;replace h:=h.arg;obtain⟨cp,cr,cf,rfl,hK,h1,h2,h3⟩:=h;have l4:=Hid.mk8 h1.four
 have l9:=Hid.mk8 h2.nine;have LP:=Hid.mk8 h1.len;have LR:=Hid.mk8 h2.len;have LF:=Hid.mk8 h3.len;obtain⟨K,p,r,f⟩:=a;dsimp only at *;have k7:KI7 w cp p:=⟨h1,sm.p1,sm.p2,sm.p3⟩
 have k8:KI8 w cr r:=⟨h2,sm.r1,sm.r2,sm.r3,sm.r4⟩;have k9:KI9 w cf f:=⟨h3,sm.f0,sm.f1,sm.f2⟩
 have ON:Hid (CB w 62 #[.agg (Value.int .i64 K::(cp++(cr++cf))).toArray] (.int .i64 (kOn ⟨K,p,r,f⟩))):=ON0
 clear ON0 h1 h2 h3 sm;obtain⟨W,hW⟩:∃W,W=w.alloc (.cells (Value.int .i64 K::(cp++(cr++cf))).toArray 45):=⟨_,rfl⟩;have bw:Below w.heap.size w W:=by rw[hW];exact below_alloc w _
 have B0:=yc1 hW;subst hW;obtain⟨e1,e2,e3,e4⟩:=on_r o8;rw[e1,e2,e3];rw[o8]at ON
 have C:Hid (CB w 64 #[.agg cr.toArray,.int .i64 i] (.tuple #[.bool (gaB (kOk8 r) (kBN8 r) (kBX8 r) i),.int .i64 (gaE (kOk8 r) (kBN8 r) (kBX8 r) i)])):=fun w0 g=>access_k8 cr r i w0 (k8.keep g) hi
 clear e1 e2 e3 e4 k7 k8 k9;generalize gaB (kOk8 r) (kBN8 r) (kBX8 r) i=P0 at *;generalize gaE (kOk8 r) (kBN8 r) (kBX8 r) i=P1 at *;go_enter Tryz.func32,Tryz.ntmps32
 go_wp2_with (refine load_obj w.heap.size _ (by rfl) rfl B0 Tryz.underlying45 HL.out ?_);refine mr (ON.out _ bw) fun w1 hb=>?_;replace B0:=B0.kept hb;replace bw:=bg bw hb;clear hb
 obtain⟨c0,p1,p2,p3⟩:=parts l4.out l9.out B0;go_wp2_with (refine load_part w.heap.size 5 cr (by rfl) rfl p2 Tryz.underlying41 LR.out ?_);refine mr (C.out _ bw) fun w2 hb=>?_
 replace bw:=bg bw hb;go_wp2;go_ret2;exact⟨rfl,bw⟩
theorem access_k(cs:List Value)(a:RA)(i:Int)(w:World)(h:KI w cs a)(hi:I64 i):
  CR 32 #[.agg cs.toArray,.int .i64 i] w (.tuple #[.bool (gaB (kOk a) (kBN a) (kBX a) i),.int .i64 (gaE (kOk a) (kBN a) (kBX a) i)]):=by
 by_cases o8:kOn a=2
 ·exact access_r cs a i w h hi o8
 have ON0:=fun(w0:World) (hb:Below w.heap.size w w0)=>only_c cs a w0 (h.arg.keep hb);have HL:=Hid.mk8 h.arg.len;have sm:=h.sm;replace h:=h.arg;obtain⟨cp,cr,cf,rfl,hK,h1,h2,h3⟩:=h;have l4:=Hid.mk8 h1.four
 have l9:=Hid.mk8 h2.nine;have LP:=Hid.mk8 h1.len;have LR:=Hid.mk8 h2.len;have LF:=Hid.mk8 h3.len;obtain⟨K,p,r,f⟩:=a;dsimp only at *;have k7:KI7 w cp p:=⟨h1,sm.p1,sm.p2,sm.p3⟩
 have k8:KI8 w cr r:=⟨h2,sm.r1,sm.r2,sm.r3,sm.r4⟩;have k9:KI9 w cf f:=⟨h3,sm.f0,sm.f1,sm.f2⟩
 have ON:Hid (CB w 62 #[.agg (Value.int .i64 K::(cp++(cr++cf))).toArray] (.int .i64 (kOn ⟨K,p,r,f⟩))):=ON0
 clear ON0 h1 h2 h3 sm;obtain⟨W,hW⟩:∃W,W=w.alloc (.cells (Value.int .i64 K::(cp++(cr++cf))).toArray 45):=⟨_,rfl⟩;have bw:Below w.heap.size w W:=by rw[hW];exact below_alloc w _
 have B0:=yc1 hW;subst hW;by_cases o7:kOn ⟨K,p,r,f⟩=1
 ·skip;obtain⟨e1,e2,e3,e4⟩:=on_p o7;rw[e1,e2,e3];rw[o7]at ON
  have C:Hid (CB w 63 #[.agg cp.toArray,.int .i64 i] (.tuple #[.bool (gaB (kOk7 p) (kBN7 p) (kBX7 p) i),.int .i64 (gaE (kOk7 p) (kBN7 p) (kBX7 p) i)])):=fun w0 g=>access_k7 cp p i w0 (k7.keep g) hi
  clear e1 e2 e3 e4 k7 k8 k9;generalize gaB (kOk7 p) (kBN7 p) (kBX7 p) i=P0 at *;generalize gaE (kOk7 p) (kBN7 p) (kBX7 p) i=P1 at *;go_enter Tryz.func32,Tryz.ntmps32
  go_wp2_with (refine load_obj w.heap.size _ (by rfl) rfl B0 Tryz.underlying45 HL.out ?_);refine mr (ON.out _ bw) fun w1 hb=>?_;replace B0:=B0.kept hb;replace bw:=bg bw hb;clear hb
  obtain⟨c0,p1,p2,p3⟩:=parts l4.out l9.out B0;go_wp2_with (refine load_part w.heap.size 1 cp (by rfl) rfl p1 Tryz.underlying37 LP.out ?_);refine mr (C.out _ bw) fun w2 hb=>?_
  replace bw:=bg bw hb;go_wp2;go_ret2;exact⟨rfl,bw⟩
 by_cases o9:kOn ⟨K,p,r,f⟩=3
 ·skip;obtain⟨e1,e2,e3,e4⟩:=on_f o9;rw[e1,e2,e3];rw[o9]at ON
  have C:Hid (CB w 65 #[.agg cf.toArray,.int .i64 i] (.tuple #[.bool (gaB (kOk9 f) (kBN9 f) (kBX9 f) i),.int .i64 (gaE (kOk9 f) (kBN9 f) (kBX9 f) i)])):=fun w0 g=>access_k9 cf f i w0 (k9.keep g) hi
  clear e1 e2 e3 e4 k7 k8 k9;generalize gaB (kOk9 f) (kBN9 f) (kBX9 f) i=P0 at *;generalize gaE (kOk9 f) (kBN9 f) (kBX9 f) i=P1 at *;go_enter Tryz.func32,Tryz.ntmps32
  go_wp2_with (refine load_obj w.heap.size _ (by rfl) rfl B0 Tryz.underlying45 HL.out ?_);refine mr (ON.out _ bw) fun w1 hb=>?_;replace B0:=B0.kept hb;replace bw:=bg bw hb;clear hb
  obtain⟨c0,p1,p2,p3⟩:=parts l4.out l9.out B0;go_wp2_with (refine load_part w.heap.size 14 cf (by rfl) rfl p3 Tryz.underlying43 LF.out ?_);refine mr (C.out _ bw) fun w2 hb=>?_
  replace bw:=bg bw hb;go_wp2;go_ret2;exact⟨rfl,bw⟩
 obtain⟨e1,e2,e3,e4⟩:=on_n o7 o8 o9;rw[e1,e2,e3];have d7:(kOn ⟨K,p,r,f⟩==1)=false:=by simp[o7]
 have d8:(kOn ⟨K,p,r,f⟩==2)=false:=by simp[o8]
 have d9:(kOn ⟨K,p,r,f⟩==3)=false:=by simp[o9]
 clear e1 e2 e3 e4 k7 k8 k9;generalize kOn ⟨K,p,r,f⟩=O at *;go_enter Tryz.func32,Tryz.ntmps32;go_wp2_with (refine load_obj w.heap.size _ (by rfl) rfl B0 Tryz.underlying45 HL.out ?_);refine mr (ON.out _ bw) fun w1 hb=>?_;replace B0:=B0.kept hb;replace bw:=bg bw hb;go_wp2;go_ret2;exact⟨rfl,bw⟩
theorem rank_r(cs:List Value)(a:RA)(bit:Bool)(i:Int)(w:World)(h:KI w cs a)(hi:I64 i)(o8:kOn a=2):
  CR 66 #[.agg cs.toArray,.bool bit,.int .i64 i] w (.tuple #[.int .i64 (grN (kOk a) (kBN a) (kBX a) bit i),.int .i64 (grE (kOk a) (kBN a) i)]):=by
 have ON0:=fun(w0:World) (hb:Below w.heap.size w w0)=>only_c cs a w0 (h.arg.keep hb);have HL:=Hid.mk8 h.arg.len;have sm:=h.sm;replace h:=h.arg;obtain⟨cp,cr,cf,rfl,hK,h1,h2,h3⟩:=h;have l4:=Hid.mk8 h1.four
 have l9:=Hid.mk8 h2.nine;have LP:=Hid.mk8 h1.len;have LR:=Hid.mk8 h2.len;have LF:=Hid.mk8 h3.len;obtain⟨K,p,r,f⟩:=a;dsimp only at *;have k7:KI7 w cp p:=⟨h1,sm.p1,sm.p2,sm.p3⟩
 have k8:KI8 w cr r:=⟨h2,sm.r1,sm.r2,sm.r3,sm.r4⟩;have k9:KI9 w cf f:=⟨h3,sm.f0,sm.f1,sm.f2⟩
 have ON:Hid (CB w 62 #[.agg (Value.int .i64 K::(cp++(cr++cf))).toArray] (.int .i64 (kOn ⟨K,p,r,f⟩))):=ON0
 clear ON0 h1 h2 h3 sm;obtain⟨W,hW⟩:∃W,W=w.alloc (.cells (Value.int .i64 K::(cp++(cr++cf))).toArray 45):=⟨_,rfl⟩;have bw:Below w.heap.size w W:=by rw[hW];exact below_alloc w _
 have B0:=yc1 hW;subst hW;obtain⟨e1,e2,e3,e4⟩:=on_r o8;rw[e1,e2,e3];rw[o8]at ON
 have C:Hid (CB w 123 #[.agg cr.toArray,.bool bit,.int .i64 i] (.tuple #[.int .i64 (grN (kOk8 r) (kBN8 r) (kBX8 r) bit i),.int .i64 (grE (kOk8 r) (kBN8 r) i)])):=fun w0 g=>rank_k8 cr r bit i w0 (k8.keep g) hi
 clear e1 e2 e3 e4 k7 k8 k9;generalize grN (kOk8 r) (kBN8 r) (kBX8 r) bit i=P0 at *;generalize grE (kOk8 r) (kBN8 r) i=P1 at *;go_enter Tryz.func66,Tryz.ntmps66
 go_wp2_with (refine load_obj w.heap.size _ (by rfl) rfl B0 Tryz.underlying45 HL.out ?_);refine mr (ON.out _ bw) fun w1 hb=>?_;replace B0:=B0.kept hb;replace bw:=bg bw hb;clear hb
 obtain⟨c0,p1,p2,p3⟩:=parts l4.out l9.out B0;go_wp2_with (refine load_part w.heap.size 5 cr (by rfl) rfl p2 Tryz.underlying41 LR.out ?_);refine mr (C.out _ bw) fun w2 hb=>?_
 replace bw:=bg bw hb;go_wp2;go_ret2;exact⟨rfl,bw⟩
theorem rank_k(cs:List Value)(a:RA)(bit:Bool)(i:Int)(w:World)(h:KI w cs a)(hi:I64 i):
  CR 66 #[.agg cs.toArray,.bool bit,.int .i64 i] w (.tuple #[.int .i64 (grN (kOk a) (kBN a) (kBX a) bit i),.int .i64 (grE (kOk a) (kBN a) i)]):=by
 by_cases o8:kOn a=2
 ·exact rank_r cs a bit i w h hi o8
 have ON0:=fun(w0:World) (hb:Below w.heap.size w w0)=>only_c cs a w0 (h.arg.keep hb);have HL:=Hid.mk8 h.arg.len;have sm:=h.sm;replace h:=h.arg;obtain⟨cp,cr,cf,rfl,hK,h1,h2,h3⟩:=h;have l4:=Hid.mk8 h1.four
 have l9:=Hid.mk8 h2.nine;have LP:=Hid.mk8 h1.len;have LR:=Hid.mk8 h2.len;have LF:=Hid.mk8 h3.len;obtain⟨K,p,r,f⟩:=a;dsimp only at *;have k7:KI7 w cp p:=⟨h1,sm.p1,sm.p2,sm.p3⟩
 have k8:KI8 w cr r:=⟨h2,sm.r1,sm.r2,sm.r3,sm.r4⟩;have k9:KI9 w cf f:=⟨h3,sm.f0,sm.f1,sm.f2⟩
 have ON:Hid (CB w 62 #[.agg (Value.int .i64 K::(cp++(cr++cf))).toArray] (.int .i64 (kOn ⟨K,p,r,f⟩))):=ON0
 clear ON0 h1 h2 h3 sm;obtain⟨W,hW⟩:∃W,W=w.alloc (.cells (Value.int .i64 K::(cp++(cr++cf))).toArray 45):=⟨_,rfl⟩;have bw:Below w.heap.size w W:=by rw[hW];exact below_alloc w _
 have B0:=yc1 hW;subst hW;by_cases o7:kOn ⟨K,p,r,f⟩=1
 ·skip;obtain⟨e1,e2,e3,e4⟩:=on_p o7;rw[e1,e2,e3];rw[o7]at ON
  have C:Hid (CB w 122 #[.agg cp.toArray,.bool bit,.int .i64 i] (.tuple #[.int .i64 (grN (kOk7 p) (kBN7 p) (kBX7 p) bit i),.int .i64 (grE (kOk7 p) (kBN7 p) i)])):=fun w0 g=>rank_k7 cp p bit i w0 (k7.keep g) hi
  clear e1 e2 e3 e4 k7 k8 k9;generalize grN (kOk7 p) (kBN7 p) (kBX7 p) bit i=P0 at *;generalize grE (kOk7 p) (kBN7 p) i=P1 at *;go_enter Tryz.func66,Tryz.ntmps66
  go_wp2_with (refine load_obj w.heap.size _ (by rfl) rfl B0 Tryz.underlying45 HL.out ?_);refine mr (ON.out _ bw) fun w1 hb=>?_;replace B0:=B0.kept hb;replace bw:=bg bw hb;clear hb
  obtain⟨c0,p1,p2,p3⟩:=parts l4.out l9.out B0;go_wp2_with (refine load_part w.heap.size 1 cp (by rfl) rfl p1 Tryz.underlying37 LP.out ?_);refine mr (C.out _ bw) fun w2 hb=>?_
  replace bw:=bg bw hb;go_wp2;go_ret2;exact⟨rfl,bw⟩
 by_cases o9:kOn ⟨K,p,r,f⟩=3
 ·skip;obtain⟨e1,e2,e3,e4⟩:=on_f o9;rw[e1,e2,e3];rw[o9]at ON
  have C:Hid (CB w 124 #[.agg cf.toArray,.bool bit,.int .i64 i] (.tuple #[.int .i64 (grN (kOk9 f) (kBN9 f) (kBX9 f) bit i),.int .i64 (grE (kOk9 f) (kBN9 f) i)])):=fun w0 g=>rank_k9 cf f bit i w0 (k9.keep g) hi
  clear e1 e2 e3 e4 k7 k8 k9;generalize grN (kOk9 f) (kBN9 f) (kBX9 f) bit i=P0 at *;generalize grE (kOk9 f) (kBN9 f) i=P1 at *;go_enter Tryz.func66,Tryz.ntmps66
  go_wp2_with (refine load_obj w.heap.size _ (by rfl) rfl B0 Tryz.underlying45 HL.out ?_);refine mr (ON.out _ bw) fun w1 hb=>?_;replace B0:=B0.kept hb;replace bw:=bg bw hb;clear hb
  obtain⟨c0,p1,p2,p3⟩:=parts l4.out l9.out B0;go_wp2_with (refine load_part w.heap.size 14 cf (by rfl) rfl p3 Tryz.underlying43 LF.out ?_);refine mr (C.out _ bw) fun w2 hb=>?_
  replace bw:=bg bw hb;go_wp2;go_ret2;exact⟨rfl,bw⟩
 obtain⟨e1,e2,e3,e4⟩:=on_n o7 o8 o9;rw[e1,e2,e3];have d7:(kOn ⟨K,p,r,f⟩==1)=false:=by simp[o7]
 have d8:(kOn ⟨K,p,r,f⟩==2)=false:=by simp[o8]
 have d9:(kOn ⟨K,p,r,f⟩==3)=false:=by simp[o9]
 clear e1 e2 e3 e4 k7 k8 k9;generalize kOn ⟨K,p,r,f⟩=O at *;go_enter Tryz.func66,Tryz.ntmps66;go_wp2_with (refine load_obj w.heap.size _ (by rfl) rfl B0 Tryz.underlying45 HL.out ?_);refine mr (ON.out _ bw) fun w1 hb=>?_;replace B0:=B0.kept hb;replace bw:=bg bw hb;go_wp2;go_ret2;exact⟨rfl,bw⟩
theorem select_r(cs:List Value)(a:RA)(bit:Bool)(k:Int)(w:World)(h:KI w cs a)(hi:I64 k)(o8:kOn a=2):
  CR 46 #[.agg cs.toArray,.bool bit,.int .i64 k] w (.tuple #[.int .i64 (gsX (kOk a) (kBN a) (kBX a) bit k),.int .i64 (gsE (kOk a) (kBN a) (kBX a) bit k)]):=by
 have ON0:=fun(w0:World) (hb:Below w.heap.size w w0)=>only_c cs a w0 (h.arg.keep hb);have HL:=Hid.mk8 h.arg.len;have sm:=h.sm;replace h:=h.arg;obtain⟨cp,cr,cf,rfl,hK,h1,h2,h3⟩:=h;have l4:=Hid.mk8 h1.four
 have l9:=Hid.mk8 h2.nine;have LP:=Hid.mk8 h1.len;have LR:=Hid.mk8 h2.len;have LF:=Hid.mk8 h3.len;obtain⟨K,p,r,f⟩:=a;dsimp only at *;have k7:KI7 w cp p:=⟨h1,sm.p1,sm.p2,sm.p3⟩
 have k8:KI8 w cr r:=⟨h2,sm.r1,sm.r2,sm.r3,sm.r4⟩;have k9:KI9 w cf f:=⟨h3,sm.f0,sm.f1,sm.f2⟩
 have ON:Hid (CB w 62 #[.agg (Value.int .i64 K::(cp++(cr++cf))).toArray] (.int .i64 (kOn ⟨K,p,r,f⟩))):=ON0
 clear ON0 h1 h2 h3 sm;obtain⟨W,hW⟩:∃W,W=w.alloc (.cells (Value.int .i64 K::(cp++(cr++cf))).toArray 45):=⟨_,rfl⟩;have bw:Below w.heap.size w W:=by rw[hW];exact below_alloc w _
 have B0:=yc1 hW;subst hW;obtain⟨e1,e2,e3,e4⟩:=on_r o8;rw[e1,e2,e3];rw[o8]at ON
 have C:Hid (CB w 82 #[.agg cr.toArray,.bool bit,.int .i64 k] (.tuple #[.int .i64 (gsX (kOk8 r) (kBN8 r) (kBX8 r) bit k),.int .i64 (gsE (kOk8 r) (kBN8 r) (kBX8 r) bit k)])):=fun w0 g=>select_k8 cr r bit k w0 (k8.keep g) hi
 clear e1 e2 e3 e4 k7 k8 k9;generalize gsX (kOk8 r) (kBN8 r) (kBX8 r) bit k=P0 at *;generalize gsE (kOk8 r) (kBN8 r) (kBX8 r) bit k=P1 at *;go_enter Tryz.func46,Tryz.ntmps46
 go_wp2_with (refine load_obj w.heap.size _ (by rfl) rfl B0 Tryz.underlying45 HL.out ?_);refine mr (ON.out _ bw) fun w1 hb=>?_;replace B0:=B0.kept hb;replace bw:=bg bw hb;clear hb
 obtain⟨c0,p1,p2,p3⟩:=parts l4.out l9.out B0;go_wp2_with (refine load_part w.heap.size 5 cr (by rfl) rfl p2 Tryz.underlying41 LR.out ?_);refine mr (C.out _ bw) fun w2 hb=>?_
 replace bw:=bg bw hb;go_wp2;go_ret2;exact⟨rfl,bw⟩
theorem select_k(cs:List Value)(a:RA)(bit:Bool)(k:Int)(w:World)(h:KI w cs a)(hi:I64 k):
  CR 46 #[.agg cs.toArray,.bool bit,.int .i64 k] w (.tuple #[.int .i64 (gsX (kOk a) (kBN a) (kBX a) bit k),.int .i64 (gsE (kOk a) (kBN a) (kBX a) bit k)]):=by
 by_cases o8:kOn a=2
 ·exact select_r cs a bit k w h hi o8
 have ON0:=fun(w0:World) (hb:Below w.heap.size w w0)=>only_c cs a w0 (h.arg.keep hb);have HL:=Hid.mk8 h.arg.len;have sm:=h.sm;replace h:=h.arg;obtain⟨cp,cr,cf,rfl,hK,h1,h2,h3⟩:=h;have l4:=Hid.mk8 h1.four
 have l9:=Hid.mk8 h2.nine;have LP:=Hid.mk8 h1.len;have LR:=Hid.mk8 h2.len;have LF:=Hid.mk8 h3.len;obtain⟨K,p,r,f⟩:=a;dsimp only at *;have k7:KI7 w cp p:=⟨h1,sm.p1,sm.p2,sm.p3⟩
 have k8:KI8 w cr r:=⟨h2,sm.r1,sm.r2,sm.r3,sm.r4⟩;have k9:KI9 w cf f:=⟨h3,sm.f0,sm.f1,sm.f2⟩
 have ON:Hid (CB w 62 #[.agg (Value.int .i64 K::(cp++(cr++cf))).toArray] (.int .i64 (kOn ⟨K,p,r,f⟩))):=ON0
 clear ON0 h1 h2 h3 sm;obtain⟨W,hW⟩:∃W,W=w.alloc (.cells (Value.int .i64 K::(cp++(cr++cf))).toArray 45):=⟨_,rfl⟩;have bw:Below w.heap.size w W:=by rw[hW];exact below_alloc w _
 have B0:=yc1 hW;subst hW;by_cases o7:kOn ⟨K,p,r,f⟩=1
 ·skip;obtain⟨e1,e2,e3,e4⟩:=on_p o7;rw[e1,e2,e3];rw[o7]at ON
  have C:Hid (CB w 81 #[.agg cp.toArray,.bool bit,.int .i64 k] (.tuple #[.int .i64 (gsX (kOk7 p) (kBN7 p) (kBX7 p) bit k),.int .i64 (gsE (kOk7 p) (kBN7 p) (kBX7 p) bit k)])):=fun w0 g=>select_k7 cp p bit k w0 (k7.keep g) hi
  clear e1 e2 e3 e4 k7 k8 k9;generalize gsX (kOk7 p) (kBN7 p) (kBX7 p) bit k=P0 at *;generalize gsE (kOk7 p) (kBN7 p) (kBX7 p) bit k=P1 at *;go_enter Tryz.func46,Tryz.ntmps46
  go_wp2_with (refine load_obj w.heap.size _ (by rfl) rfl B0 Tryz.underlying45 HL.out ?_);refine mr (ON.out _ bw) fun w1 hb=>?_;replace B0:=B0.kept hb;replace bw:=bg bw hb;clear hb
  obtain⟨c0,p1,p2,p3⟩:=parts l4.out l9.out B0;go_wp2_with (refine load_part w.heap.size 1 cp (by rfl) rfl p1 Tryz.underlying37 LP.out ?_);refine mr (C.out _ bw) fun w2 hb=>?_
  replace bw:=bg bw hb;go_wp2;go_ret2;exact⟨rfl,bw⟩
 by_cases o9:kOn ⟨K,p,r,f⟩=3
 ·skip;obtain⟨e1,e2,e3,e4⟩:=on_f o9;rw[e1,e2,e3];rw[o9]at ON
  have C:Hid (CB w 83 #[.agg cf.toArray,.bool bit,.int .i64 k] (.tuple #[.int .i64 (gsX (kOk9 f) (kBN9 f) (kBX9 f) bit k),.int .i64 (gsE (kOk9 f) (kBN9 f) (kBX9 f) bit k)])):=fun w0 g=>select_k9 cf f bit k w0 (k9.keep g) hi
  clear e1 e2 e3 e4 k7 k8 k9;generalize gsX (kOk9 f) (kBN9 f) (kBX9 f) bit k=P0 at *;generalize gsE (kOk9 f) (kBN9 f) (kBX9 f) bit k=P1 at *;go_enter Tryz.func46,Tryz.ntmps46
  go_wp2_with (refine load_obj w.heap.size _ (by rfl) rfl B0 Tryz.underlying45 HL.out ?_);refine mr (ON.out _ bw) fun w1 hb=>?_;replace B0:=B0.kept hb;replace bw:=bg bw hb;clear hb
  obtain⟨c0,p1,p2,p3⟩:=parts l4.out l9.out B0;go_wp2_with (refine load_part w.heap.size 14 cf (by rfl) rfl p3 Tryz.underlying43 LF.out ?_);refine mr (C.out _ bw) fun w2 hb=>?_
  replace bw:=bg bw hb;go_wp2;go_ret2;exact⟨rfl,bw⟩
 obtain⟨e1,e2,e3,e4⟩:=on_n o7 o8 o9;rw[e1,e2,e3];have d7:(kOn ⟨K,p,r,f⟩==1)=false:=by simp[o7]
 have d8:(kOn ⟨K,p,r,f⟩==2)=false:=by simp[o8]
 have d9:(kOn ⟨K,p,r,f⟩==3)=false:=by simp[o9]
 clear e1 e2 e3 e4 k7 k8 k9;generalize kOn ⟨K,p,r,f⟩=O at *;go_enter Tryz.func46,Tryz.ntmps46;go_wp2_with (refine load_obj w.heap.size _ (by rfl) rfl B0 Tryz.underlying45 HL.out ?_);refine mr (ON.out _ bw) fun w1 hb=>?_;replace B0:=B0.kept hb;replace bw:=bg bw hb;go_wp2;go_ret2;exact⟨rfl,bw⟩
theorem info_bv:(Tryz.prog.info? 33).map (·.size)=some 2:=by kernel_rfl
theorem bits_r(cs:List Value)(a:RA)(w:World)(h:KI w cs a)(o8:kOn a=2):
  Calls Tryz.prog 49 #[.agg cs.toArray] w fun e w'=>∃bo bc,e=.returned (.agg #[.int .i64 (kBN a),.slice bo (kBX a).length bc])∧Wd w' bo (kBX a)∧(kBX a).length≤bc∧Below w.heap.size w w':=by
 have ON0:=fun(w0:World) (hb:Below w.heap.size w w0)=>only_c cs a w0 (h.arg.keep hb);have HL:=Hid.mk8 h.arg.len;have sm:=h.sm;replace h:=h.arg;obtain⟨cp,cr,cf,rfl,hK,h1,h2,h3⟩:=h;have l4:=Hid.mk8 h1.four
 have l9:=Hid.mk8 h2.nine;have LP:=Hid.mk8 h1.len;have LR:=Hid.mk8 h2.len;have LF:=Hid.mk8 h3.len;obtain⟨K,p,r,f⟩:=a;dsimp only at *;have k7:KI7 w cp p:=⟨h1,sm.p1,sm.p2,sm.p3⟩
 have k8:KI8 w cr r:=⟨h2,sm.r1,sm.r2,sm.r3,sm.r4⟩;have k9:KI9 w cf f:=⟨h3,sm.f0,sm.f1,sm.f2⟩
 have ON:Hid (CB w 62 #[.agg (Value.int .i64 K::(cp++(cr++cf))).toArray] (.int .i64 (kOn ⟨K,p,r,f⟩))):=ON0
 clear ON0 h1 h2 h3 sm;have bw:Below w.heap.size w ((w.alloc (.cells (Value.int .i64 K::(cp++(cr++cf))).toArray 45)).alloc (.cells #[.int .i64 0,.slice none 0 0] 33)):=(below_alloc w _).alloc (by simp) _
 have B0:Cel ((w.alloc (.cells (Value.int .i64 K::(cp++(cr++cf))).toArray 45)).alloc (.cells #[.int .i64 0,.slice none 0 0] 33)) w.heap.size (Value.int .i64 K::(cp++(cr++cf))) 45:=(Cel.new w _ _).alloc _
 have B2:Cel ((w.alloc (.cells (Value.int .i64 K::(cp++(cr++cf))).toArray 45)).alloc (.cells #[.int .i64 0,.slice none 0 0] 33)) (w.heap.size+1) [.int .i64 0,.slice none 0 0] 33:=Cel.new2 w _ _ _
 obtain⟨e1,e2,e3,e4⟩:=on_r o8;rw[e2,e3];rw[o8]at ON
 have C:Hid (∀w0,Below w.heap.size w w0→Calls Tryz.prog 88 #[.agg cr.toArray] w0 fun e w'=>∃bo bc,e=.returned (.agg #[.int .i64 (kBN8 r),.slice bo (kBX8 r).length bc])∧Wd w' bo (kBX8 r)∧(kBX8 r).length≤bc∧Below w0.heap.size w0 w'):=fun w0 g=>bits_k8 cr r w0 (k8.keep g)
 clear e1 e2 e3 e4 k7 k8 k9;generalize kBN8 r=N at *;generalize kBX8 r=X at *;go_enter Tryz.func49,Tryz.ntmps49;go_wp2_with (refine load_obj w.heap.size _ (by rfl) rfl B0 Tryz.underlying45 HL.out ?_)
 refine mr (ON.out _ bw) fun w1 hb=>?_;replace B0:=B0.kept hb;replace bw:=bg bw hb;replace B2:=B2.kept hb;clear hb;obtain⟨c0,p1,p2,p3⟩:=parts l4.out l9.out B0
 go_wp2_with (refine load_part w.heap.size 5 cr (by rfl) rfl p2 Tryz.underlying41 LR.out ?_);refine(C.out _ bw).mono ?_;rintro e w2 ⟨bo,bc,rfl,hx,hbc,hb⟩;replace bw:=bg bw hb;replace B2:=B2.kept hb
 clear hb C ON B0 c0 p1 p2 p3;have hne:=hx.apart B2 (by intro v hv n;simp at hv;rcases hv with rfl | rfl<;>simp);go_wp2_with (refine store_cel (w.heap.size+1) _ _ rfl rfl B2 rfl info_bv (by simp[Value.oneCell']) ?_)
 intro w3 B3 O3;have HZ:Hid (Cel w3 (w.heap.size+1) [.int .i64 N,.slice bo (List.length X) bc] 33∧Wd w3 bo X∧Below w.heap.size w w3):=⟨B3,O3.wd hx hne,bw.trans (O3.below (Nat.le_succ _))⟩;clear B3 O3 hx;go_wp2
 (try simp only[Exit.inBlock,Exit.then]);exact bodyPost_ret (result_cel1 rfl (w.heap.size+1) _ rfl HZ.out.1 Tryz.underlying33 info_bv) rfl ⟨bo,bc,rfl,HZ.out.2.1,hbc,HZ.out.2.2⟩
theorem bits_k(cs:List Value)(a:RA)(w:World)(h:KI w cs a):
  Calls Tryz.prog 49 #[.agg cs.toArray] w fun e w'=>∃bo bc,e=.returned (.agg #[.int .i64 (kBN a),.slice bo (kBX a).length bc])∧Wd w' bo (kBX a)∧(kBX a).length≤bc∧Below w.heap.size w w':=by
 by_cases o8:kOn a=2
 ·exact bits_r cs a w h o8
 have ON0:=fun(w0:World) (hb:Below w.heap.size w w0)=>only_c cs a w0 (h.arg.keep hb);have HL:=Hid.mk8 h.arg.len;have sm:=h.sm;replace h:=h.arg;obtain⟨cp,cr,cf,rfl,hK,h1,h2,h3⟩:=h;have l4:=Hid.mk8 h1.four
 have l9:=Hid.mk8 h2.nine;have LP:=Hid.mk8 h1.len;have LR:=Hid.mk8 h2.len;have LF:=Hid.mk8 h3.len;obtain⟨K,p,r,f⟩:=a;dsimp only at *;have k7:KI7 w cp p:=⟨h1,sm.p1,sm.p2,sm.p3⟩
 have k8:KI8 w cr r:=⟨h2,sm.r1,sm.r2,sm.r3,sm.r4⟩;have k9:KI9 w cf f:=⟨h3,sm.f0,sm.f1,sm.f2⟩
 have ON:Hid (CB w 62 #[.agg (Value.int .i64 K::(cp++(cr++cf))).toArray] (.int .i64 (kOn ⟨K,p,r,f⟩))):=ON0
 clear ON0 h1 h2 h3 sm;have bw:Below w.heap.size w ((w.alloc (.cells (Value.int .i64 K::(cp++(cr++cf))).toArray 45)).alloc (.cells #[.int .i64 0,.slice none 0 0] 33)):=(below_alloc w _).alloc (by simp) _
 have B0:Cel ((w.alloc (.cells (Value.int .i64 K::(cp++(cr++cf))).toArray 45)).alloc (.cells #[.int .i64 0,.slice none 0 0] 33)) w.heap.size (Value.int .i64 K::(cp++(cr++cf))) 45:=(Cel.new w _ _).alloc _
 have B2:Cel ((w.alloc (.cells (Value.int .i64 K::(cp++(cr++cf))).toArray 45)).alloc (.cells #[.int .i64 0,.slice none 0 0] 33)) (w.heap.size+1) [.int .i64 0,.slice none 0 0] 33:=Cel.new2 w _ _ _
 by_cases o7:kOn ⟨K,p,r,f⟩=1
 ·skip;obtain⟨e1,e2,e3,e4⟩:=on_p o7;rw[e2,e3];rw[o7]at ON
  have C:Hid (∀w0,Below w.heap.size w w0→Calls Tryz.prog 87 #[.agg cp.toArray] w0 fun e w'=>∃bo bc,e=.returned (.agg #[.int .i64 (kBN7 p),.slice bo (kBX7 p).length bc])∧Wd w' bo (kBX7 p)∧(kBX7 p).length≤bc∧Below w0.heap.size w0 w'):=fun w0 g=>bits_k7 cp p w0 (k7.keep g)
  clear e1 e2 e3 e4 k7 k8 k9;generalize kBN7 p=N at *;generalize kBX7 p=X at *;go_enter Tryz.func49,Tryz.ntmps49;go_wp2_with (refine load_obj w.heap.size _ (by rfl) rfl B0 Tryz.underlying45 HL.out ?_)
  refine mr (ON.out _ bw) fun w1 hb=>?_;replace B0:=B0.kept hb;replace bw:=bg bw hb;replace B2:=B2.kept hb;clear hb;obtain⟨c0,p1,p2,p3⟩:=parts l4.out l9.out B0
  go_wp2_with (refine load_part w.heap.size 1 cp (by rfl) rfl p1 Tryz.underlying37 LP.out ?_);refine(C.out _ bw).mono ?_;rintro e w2 ⟨bo,bc,rfl,hx,hbc,hb⟩;replace bw:=bg bw hb;replace B2:=B2.kept hb
  clear hb C ON B0 c0 p1 p2 p3;have hne:=hx.apart B2 (by intro v hv n;simp at hv;rcases hv with rfl | rfl<;>simp);go_wp2_with (refine store_cel (w.heap.size+1) _ _ rfl rfl B2 rfl info_bv (by simp[Value.oneCell']) ?_)
  intro w3 B3 O3;have HZ:Hid (Cel w3 (w.heap.size+1) [.int .i64 N,.slice bo (List.length X) bc] 33∧Wd w3 bo X∧Below w.heap.size w w3):=⟨B3,O3.wd hx hne,bw.trans (O3.below (Nat.le_succ _))⟩;clear B3 O3 hx;go_wp2
  (try simp only[Exit.inBlock,Exit.then]);exact bodyPost_ret (result_cel1 rfl (w.heap.size+1) _ rfl HZ.out.1 Tryz.underlying33 info_bv) rfl ⟨bo,bc,rfl,HZ.out.2.1,hbc,HZ.out.2.2⟩
 by_cases o9:kOn ⟨K,p,r,f⟩=3
 ·skip;obtain⟨e1,e2,e3,e4⟩:=on_f o9;rw[e2,e3];rw[o9]at ON
  have C:Hid (∀w0,Below w.heap.size w w0→Calls Tryz.prog 89 #[.agg cf.toArray] w0 fun e w'=>∃bo bc,e=.returned (.agg #[.int .i64 (kBN9 f),.slice bo (kBX9 f).length bc])∧Wd w' bo (kBX9 f)∧(kBX9 f).length≤bc∧Below w0.heap.size w0 w'):=fun w0 g=>bits_k9 cf f w0 (k9.keep g)
  clear e1 e2 e3 e4 k7 k8 k9;generalize kBN9 f=N at *;generalize kBX9 f=X at *;go_enter Tryz.func49,Tryz.ntmps49;go_wp2_with (refine load_obj w.heap.size _ (by rfl) rfl B0 Tryz.underlying45 HL.out ?_)
  refine mr (ON.out _ bw) fun w1 hb=>?_;replace B0:=B0.kept hb;replace bw:=bg bw hb;replace B2:=B2.kept hb;clear hb;obtain⟨c0,p1,p2,p3⟩:=parts l4.out l9.out B0
  go_wp2_with (refine load_part w.heap.size 14 cf (by rfl) rfl p3 Tryz.underlying43 LF.out ?_);refine(C.out _ bw).mono ?_;rintro e w2 ⟨bo,bc,rfl,hx,hbc,hb⟩;replace bw:=bg bw hb;replace B2:=B2.kept hb
  clear hb C ON B0 c0 p1 p2 p3;have hne:=hx.apart B2 (by intro v hv n;simp at hv;rcases hv with rfl | rfl<;>simp);go_wp2_with (refine store_cel (w.heap.size+1) _ _ rfl rfl B2 rfl info_bv (by simp[Value.oneCell']) ?_)
  intro w3 B3 O3;have HZ:Hid (Cel w3 (w.heap.size+1) [.int .i64 N,.slice bo (List.length X) bc] 33∧Wd w3 bo X∧Below w.heap.size w w3):=⟨B3,O3.wd hx hne,bw.trans (O3.below (Nat.le_succ _))⟩;clear B3 O3 hx;go_wp2
  (try simp only[Exit.inBlock,Exit.then]);exact bodyPost_ret (result_cel1 rfl (w.heap.size+1) _ rfl HZ.out.1 Tryz.underlying33 info_bv) rfl ⟨bo,bc,rfl,HZ.out.2.1,hbc,HZ.out.2.2⟩
 obtain⟨e1,e2,e3,e4⟩:=on_n o7 o8 o9;rw[e2,e3];have d7:(kOn ⟨K,p,r,f⟩==1)=false:=by simp[o7]
 have d8:(kOn ⟨K,p,r,f⟩==2)=false:=by simp[o8]
 have d9:(kOn ⟨K,p,r,f⟩==3)=false:=by simp[o9]
 clear e1 e2 e3 e4 k7 k8 k9;generalize kOn ⟨K,p,r,f⟩=O at *;go_enter Tryz.func49,Tryz.ntmps49;go_wp2_with (refine load_obj w.heap.size _ (by rfl) rfl B0 Tryz.underlying45 HL.out ?_);refine mr (ON.out _ bw) fun w1 hb=>?_;replace B0:=B0.kept hb;replace bw:=bg bw hb;replace B2:=B2.kept hb;clear hb ON B0
 go_wp2_with (refine store_cel (w.heap.size+1) _ _ rfl rfl B2 rfl info_bv (by simp[Value.oneCell']) ?_);intro w3 B3 O3
 have HZ:Hid (Cel w3 (w.heap.size+1) [.int .i64 0,.slice none 0 0] 33∧Below w.heap.size w w3):=⟨B3,bw.trans (O3.below (Nat.le_succ _))⟩;clear B3 O3;go_wp2
 (try simp only[Exit.inBlock,Exit.then]);exact bodyPost_ret (result_cel1 rfl (w.heap.size+1) _ rfl HZ.out.1 Tryz.underlying33 info_bv) rfl ⟨none,0,rfl,wd0' _ _,Nat.le_refl _,HZ.out.2⟩
theorem Only.nd{g base:Nat}{w w':World}{ao:Option Addr}{l:List Int}(h:Only g w w')(hx:Nd w ao l)(hf:Fr base ao)(hg:g<base):Nd w' ao l:=by
 intro h0;obtain⟨b,off,rfl,hlt,hc⟩:=hx h0;have hne:base≤b:=hf _ rfl;exact⟨b,off,rfl,by rw[h.size];exact hlt,fun i hi=>(h.cell (p:=⟨b,off+i,none⟩) (show b≠g by omega)).trans (hc i hi)⟩
def Nou(cs:List Value):Prop:=∀v∈cs,∀n,v≠.int .u64 n
theorem Nou.app{a b:List Value}(h:Nou a)(g:Nou b):Nou (a++b):=fun v hv n=>by
 rcases List.mem_append.1 hv with e | e
 ·exact h v e n
 ·exact g v e n
theorem KArg7.nou{w:World}{cs:List Value}{a:RA7}(h:KArg7 w cs a):Nou cs:=by
 obtain⟨ao,cap,so,sc,tO,tc,rfl,_⟩:=h;intro v hv n;simp at hv;rcases hv with rfl | rfl | rfl | rfl<;>simp
theorem KArg8.nou{w:World}{cs:List Value}{a:RA8}(h:KArg8 w cs a):Nou cs:=by
 obtain⟨ao,cap,qo,dap,so,sc,tO,tc,rfl,_⟩:=h;intro v hv n;simp at hv;rcases hv with rfl | rfl | rfl | rfl | rfl | rfl | rfl | rfl | rfl<;>simp
theorem KArg9.nou{w:World}{cs:List Value}{a:RA9}(h:KArg9 w cs a):Nou cs:=by
 obtain⟨ao,cap,qo,dap,rfl,_⟩:=h;intro v hv n;simp at hv;rcases hv with rfl | rfl | rfl | rfl | rfl | rfl | rfl | rfl<;>simp
theorem KI7.only{w w2:World}{g base:Nat}{cs gs:List Value}{a:RA7}{T:TypeId}(h:KI7 w cs a)(nf:NF base 2 cs)(hg:g<base)(hc:Cel w g gs T)(hn:Nou gs)(hO:Only g w w2):KI7 w2 cs a:=by
 obtain⟨⟨ao,cap,so,sc,tO,tc,rfl,h⟩,xl,sl,tl⟩:=h
 exact⟨⟨ao,cap,so,sc,tO,tc,rfl,⟨h.n,hO.wd h.x (h.x.apart hc hn),h.f,h.c,hO.nd h.s (nf _ _ _ (.inl rfl)) hg,h.sf,h.sc,hO.nd h.t (nf _ _ _ (.inr rfl)) hg,h.tf,h.tc⟩⟩,xl,sl,tl⟩
theorem KI8.only{w w2:World}{g base:Nat}{cs gs:List Value}{a:RA8}{T:TypeId}(h:KI8 w cs a)(nf:NF base 7 cs)(hg:g<base)(hc:Cel w g gs T)(hn:Nou gs)(hO:Only g w w2):KI8 w2 cs a:=by
 obtain⟨⟨ao,cap,qo,dap,so,sc,tO,tc,rfl,r,a1,a2,a3,a4,a5,a6,a7,a8,a9,a10⟩,xl,yl,sl,tl⟩:=h
 exact⟨⟨ao,cap,qo,dap,so,sc,tO,tc,rfl,r,hO.wd a1 (a1.apart hc hn),a2,a3,hO.wd a4 (a4.apart hc hn),a5,a6,hO.nd a7 (nf _ _ _ (.inl rfl)) hg,a8,hO.nd a9 (nf _ _ _ (.inr rfl)) hg,a10⟩,xl,yl,sl,tl⟩
theorem KI9.only{w w2:World}{g:Nat}{cs gs:List Value}{a:RA9}{T:TypeId}(h:KI9 w cs a)(hc:Cel w g gs T)(hn:Nou gs)(hO:Only g w w2):KI9 w2 cs a:=by
 obtain⟨⟨ao,cap,qo,dap,rfl,r,a1,a2,a3,a4,a5,a6⟩,n3,xl,yl⟩:=h;exact⟨⟨ao,cap,qo,dap,rfl,r,hO.wd a1 (a1.apart hc hn),a2,a3,hO.wd a4 (a4.apart hc hn),a5,a6⟩,n3,xl,yl⟩
theorem i64_0:I64 0:=⟨by decide,by decide⟩
theorem z7arg(w:World):KI7 w [Value.int .i64 0,.slice none 0 0,.slice none 0 0,.slice none 0 0] n7:=⟨⟨none,0,none,0,none,0,rfl,⟨i64_0,wd0' _ _,fit_nil,Nat.le_refl _,nd0 _ _,fitI_nil,Nat.le_refl _,nd0 _ _,fitI_nil,Nat.le_refl _⟩⟩,Nat.zero_le _,Nat.zero_le _,Nat.zero_le _⟩
theorem z8arg(w:World):KI8 w [Value.int .i64 0,.int .i64 0,.int .i64 0,.int .i64 0,.slice none 0 0,.int .i64 0,.slice none 0 0,.slice none 0 0,.slice none 0 0] n8:=⟨⟨none,0,none,0,none,0,none,0,rfl,⟨i64_0,i64_0,i64_0,i64_0,i64_0,fitI_nil,fitI_nil⟩,wd0' _ _,fit_nil,Nat.le_refl _,wd0' _ _,fit_nil,Nat.le_refl _,nd0 _ _,Nat.le_refl _,nd0 _ _,Nat.le_refl _⟩,Nat.zero_le _,Nat.zero_le _,Nat.zero_le _,Nat.zero_le _⟩
theorem z9arg(w:World):KI9 w [Value.int .i64 0,.int .i64 0,.int .i64 0,.int .i64 0,.int .i64 0,.slice none 0 0,.int .i64 0,.slice none 0 0] n9:=⟨⟨none,0,none,0,rfl,⟨i64_0,i64_0,i64_0,i64_0,i64_0,i64_0⟩,wd0' _ _,fit_nil,Nat.le_refl _,wd0' _ _,fit_nil,Nat.le_refl _⟩,by decide,Nat.zero_le _,Nat.zero_le _⟩
theorem ki_mk{w:World}{cp cr cf:List Value}{K:Int}{p:RA7}{r:RA8}{f:RA9}(hK:I64 K)(h1:KI7 w cp p)(h2:KI8 w cr r)(h3:KI9 w cf f):KI w (.int .i64 K::(cp++(cr++cf))) ⟨K,p,r,f⟩:=
 ⟨⟨cp,cr,cf,rfl,hK,h1.arg,h2.arg,h3.arg⟩,⟨h1.xl,h1.sl,h1.tl,h2.xl,h2.yl,h2.sl,h2.tl,h3.n3,h3.xl,h3.yl⟩⟩
theorem nou_mk{cp cr cf:List Value}{K:Int}(h1:Nou cp)(h2:Nou cr)(h3:Nou cf):Nou (.int .i64 K::(cp++(cr++cf))):=fun v hv n=>by
 rcases List.mem_cons.1 hv with rfl | e
 ·simp
 ·exact(h1.app (h2.app h3)) v e n
theorem cel_cells{w:World}{g:Nat}{T:TypeId}:∀(cs pre old post:List Value),old.length=cs.length→Cel w g (pre++(old++post)) T→Cel (w.setCells g pre.length cs) g (pre++(cs++post)) T∧Only g w (w.setCells g pre.length cs):=by
 intro cs;induction cs generalizing w with
 | nil=>
  intro pre old post hl h;obtain rfl:=List.eq_nil_of_length_eq_zero hl;exact⟨h,Only.refl _ _⟩
 | cons v r ih=>
  intro pre old post hl h;match old,hl with
  | u::o,hl=>
   have h2:Cel (w.setCell ⟨g,pre.length,none⟩ v) g ((pre++[v])++(o++post)) T:=by
    have:=h.set pre.length v
    have e:(pre++(u::o++post)).set pre.length v=(pre++[v])++(o++post):=by
     rw[List.set_append_right _ _ (Nat.le_refl _),Nat.sub_self];simp
    rw[e]at this;exact this
   have k:=ih (pre++[v]) o post (by simpa using hl) h2;rw[List.length_append,List.length_singleton]at k;refine⟨?_,((Only.refl g w).set pre.length v).trans k.2⟩;have k1:=k.1;rw[List.append_assoc]at k1;exact k1
theorem store_part{ops:Array Oper}{rest:List Oper}{d:Option Tmp}{ty T TT:TypeId}{ps:String}{af:Array Edge}{a:Act}{w:World}{Q:Exit→Act→World→Prop}{x y:Operand}
  (g:Nat) (pre old post cs:List Value) (hx:a.eval x=.pointer (some ⟨g,pre.length,none⟩)) (hy:a.eval y=.agg cs.toArray) (hc:Cel w g (pre++(old++post)) TT) (lo:old.length=cs.length) (hi:(Tryz.prog.info? T).map (·.size)=some cs.length) (h1:cs.toArray.all (·.oneCell')=true)
  (h:∀w1,Cel w1 g (pre++(cs++post)) TT→Only g w w1→wpList Tryz.prog ops Q rest (a.put d undef) w1):
  wpList Tryz.prog ops Q (⟨d,.store T x y,ty,ps,af,none⟩::rest) a w:=by
 refine wpList_store_mid rfl T x y rfl g pre.length cs.toArray hx hy ?_ (by simpa using hi) h1 ?_
 ·intro j hj;have hj:j<cs.length:=by simpa using hj
  have hl:pre.length+j<(pre++(old++post)).length:=by simp only[List.length_append];omega
  exact⟨by rw[hc.cell (pre.length+j) (List.getElem?_eq_getElem hl)];rfl,hc.frozen _⟩
 ·have k:=cel_cells cs pre old post lo hc;exact h _ k.1 k.2
theorem NF.mono{base b0 i:Nat}{cs:List Value}(h:NF base i cs)(hl:b0≤base):NF b0 i cs:=fun ao n c e a ha=>Nat.le_trans hl (h ao n c e a ha)
theorem NF.mid{base i j:Nat}{pre cs post:List Value}(h:NF base i cs)(hl:i+2≤cs.length)(hj:j=pre.length+i):NF base j (pre++(cs++post)):=fun ao n c e=>by
 subst hj;refine h ao n c ?_
 have k:∀q,q<cs.length→(pre++(cs++post))[pre.length+q]?=cs[q]?:=fun q hq=>by
  rw[List.getElem?_append_right (by omega),List.getElem?_append_left (by omega),show pre.length+q-pre.length=q by omega]
 rw[k i (by omega),show pre.length+i+1=pre.length+(i+1)by omega,k (i+1) (by omega)]at e;exact e
def NFV(base:Nat)(cs:List Value):Prop:=NF base 3 cs∧NF base 12 cs
theorem build_1(N:Int)(ao:Option Addr)(xs:List Nat)(cap:Nat)(w:World)(hN:I64 N)(hx:Wd w ao xs)(hf:Fit xs)(hcap:xs.length≤cap)(hl:N≤3000∧xs.length≤1048576)(z:kE7 N xs=0):
  Calls Tryz.prog 27 #[.int .i64 1,.agg #[.int .i64 N,.slice ao xs.length cap]] w fun e w'=>∃cs:List Value,e=.returned (.tuple #[.agg cs.toArray,.int .i64 (kE 1 N xs)])∧KI w' cs (kB 1 N xs)∧Below w.heap.size w w'∧NFV w.heap.size cs:=by
 have hK:I64 1:=⟨by decide,by decide⟩
 obtain⟨W,hW⟩:∃W,W=((w.alloc (.cells #[.int .i64 N,.slice ao xs.length cap] 33)).alloc (.cells [Value.int .i64 0,.int .i64 0,.slice none 0 0,.slice none 0 0,.slice none 0 0,.int .i64 0,.int .i64 0,.int .i64 0,.int .i64 0,.slice none 0 0,.int .i64 0,.slice none 0 0,.slice none 0 0,.slice none 0 0,.int .i64 0,.int .i64 0,.int .i64 0,.int .i64 0,.int .i64 0,.slice none 0 0,.int .i64 0,.slice none 0 0].toArray 45)).alloc (.cells [Value.int .i64 0,.int .i64 0,.slice none 0 0,.slice none 0 0,.slice none 0 0,.int .i64 0,.int .i64 0,.int .i64 0,.int .i64 0,.slice none 0 0,.int .i64 0,.slice none 0 0,.slice none 0 0,.slice none 0 0,.int .i64 0,.int .i64 0,.int .i64 0,.int .i64 0,.int .i64 0,.slice none 0 0,.int .i64 0,.slice none 0 0].toArray 45):=⟨_,rfl⟩
 have bw:Below w.heap.size w W:=by rw[hW];exact((below_alloc w _).alloc (by simp) _).alloc (by simp;omega) _
 have B0:Cel W w.heap.size [.int .i64 N,.slice ao xs.length cap] 33:=by rw[hW];exact((Cel.new w _ _).alloc _).alloc _
 have B4:Cel W (w.heap.size+1) [Value.int .i64 0,.int .i64 0,.slice none 0 0,.slice none 0 0,.slice none 0 0,.int .i64 0,.int .i64 0,.int .i64 0,.int .i64 0,.slice none 0 0,.int .i64 0,.slice none 0 0,.slice none 0 0,.slice none 0 0,.int .i64 0,.int .i64 0,.int .i64 0,.int .i64 0,.int .i64 0,.slice none 0 0,.int .i64 0,.slice none 0 0] 45:=by rw[hW];exact(Cel.new2 w _ _ _).alloc _
 have B6:Cel W (w.heap.size+2) [Value.int .i64 0,.int .i64 0,.slice none 0 0,.slice none 0 0,.slice none 0 0,.int .i64 0,.int .i64 0,.int .i64 0,.int .i64 0,.slice none 0 0,.int .i64 0,.slice none 0 0,.slice none 0 0,.slice none 0 0,.int .i64 0,.int .i64 0,.int .i64 0,.int .i64 0,.int .i64 0,.slice none 0 0,.int .i64 0,.slice none 0 0] 45:=by rw[hW];exact(Cel.new2 (w.alloc _) _ _ _).at (by simp)
 have hIV:=Hid.mk8 info_v
 have H7:Hid (∀w0,Below w.heap.size w w0→Calls Tryz.prog 52 #[.agg #[.int .i64 N,.slice ao xs.length cap]] w0 fun e w'=>∃cs:List Value,e=.returned (.tuple #[.agg cs.toArray,.int .i64 (kE7 N xs)])∧KI7 w' cs (kB7 N xs)∧NF w0.heap.size 2 cs∧Below w0.heap.size w0 w'):=fun w0 h=>build_k7 N ao xs cap w0 hN (hx.keep h) hf hcap hl.2
 subst hW;have eE:kE 1 N xs=kE7 N xs:=rfl;rw[eE];have ew:kB 1 N xs=⟨1,kB7 N xs,n8,n9⟩:=kB_p N xs z;rw[z]at H7⊢;clear eE z;go_enter Tryz.func27,Tryz.ntmps27
 go_wp2_with (refine store_cel (w.heap.size+2) _ _ rfl rfl B6 rfl hIV.out (by simp[Value.oneCell']) ?_);intro w1 B6 O1;replace B0:=O1.cel B0 (by omega);replace B4:=O1.cel B4 (by omega)
 replace bw:=bw.trans (O1.below (by omega));clear O1;have r0:=B0.cell 0 rfl;have r1:=B0.cell 1 rfl;go_wp2_with fail;refine(H7.out _ bw).mono ?_;rintro e w2 ⟨cs,rfl,hP,hN2,hb⟩;have sz:=B6.lt;have sz2:=hb.size
 replace B4:=B4.kept hb;replace B6:=B6.kept hb;replace bw:=bg bw hb;clear hb r0 r1 B0
 go_wp2_with (refine store_part (w.heap.size+2) [Value.int .i64 1] [Value.int .i64 0,.slice none 0 0,.slice none 0 0,.slice none 0 0] ([Value.int .i64 0,.int .i64 0,.int .i64 0,.int .i64 0,.slice none 0 0,.int .i64 0,.slice none 0 0,.slice none 0 0,.slice none 0 0]++[Value.int .i64 0,.int .i64 0,.int .i64 0,.int .i64 0,.int .i64 0,.slice none 0 0,.int .i64 0,.slice none 0 0]) cs rfl rfl B6 hP.arg.four.symm hP.arg.len hP.arg.one ?_)
 intro w3 B7 O3;have hQ:=hP.only hN2 (by omega) B6 (nou_mk (z7arg w).arg.nou (z8arg w).arg.nou (z9arg w).arg.nou) O3;replace B4:=O3.cel B4 (by omega);replace bw:=bw.trans (O3.below (by omega))
 have B8:Cel w3 (w.heap.size+2) (Value.int .i64 1::(cs++([Value.int .i64 0,.int .i64 0,.int .i64 0,.int .i64 0,.slice none 0 0,.int .i64 0,.slice none 0 0,.slice none 0 0,.slice none 0 0]++[Value.int .i64 0,.int .i64 0,.int .i64 0,.int .i64 0,.int .i64 0,.slice none 0 0,.int .i64 0,.slice none 0 0]))) 45:=B7
 have HL:=Hid.mk8 (ki_mk hK hQ (z8arg w3) (z9arg w3)).arg.len;have H1:=Hid.mk8 (ki_mk hK hQ (z8arg w3) (z9arg w3)).arg.one;have H9:=Hid.mk8 (ki_mk hK hQ (z8arg w3) (z9arg w3)).arg.nine
 have HNF:Hid (NFV w.heap.size (Value.int .i64 1::(cs++([Value.int .i64 0,.int .i64 0,.int .i64 0,.int .i64 0,.slice none 0 0,.int .i64 0,.slice none 0 0,.slice none 0 0,.slice none 0 0]++[Value.int .i64 0,.int .i64 0,.int .i64 0,.int .i64 0,.int .i64 0,.slice none 0 0,.int .i64 0,.slice none 0 0])))):=⟨(hN2.mono (by omega)).mid (pre:=[Value.int .i64 1]) (by have:=hQ.arg.four;omega) rfl,(show NF w.heap.size 7 [Value.int .i64 0,.int .i64 0,.int .i64 0,.int .i64 0,.slice none 0 0,.int .i64 0,.slice none 0 0,.slice none 0 0,.slice none 0 0]from nf_mk (fr0 _) (fr0 _)).mid (pre:=Value.int .i64 1::cs) (by decide) (by have:=hQ.arg.four;simp;omega)⟩
 have HQ:=Hid.mk8 (And.intro hQ hN2);clear B7 O3 B6 hP hN2 hQ
 go_wp2_with (first | refine load_obj (w.heap.size+2) _ (by rfl) rfl B8 Tryz.underlying45 HL.out ?_ | refine store_cel (w.heap.size+1) _ _ rfl rfl B4 H9.out HL.out H1.out ?_);intro w9 B9 O9
 have HZ:=Hid.mk8 (And.intro B9 (And.intro (ki_mk hK (HQ.out.1.only HQ.out.2 (by omega) B4 (nou_mk (z7arg w).arg.nou (z8arg w).arg.nou (z9arg w).arg.nou) O9) (z8arg w9) (z9arg w9)) (bw.trans (O9.below (by omega)))))
 clear B9 O9 B8 B4 HQ;go_wp2
 (try simp only[Exit.inBlock,Exit.then]);refine bodyPost_ret (result_cel rfl (w.heap.size+1) _ rfl HZ.out.1 Tryz.underlying45 HL.out) rfl ⟨_,rfl,?_,HZ.out.2.2,HNF.out⟩;rw[ew];exact HZ.out.2.1
def VB(k:Int):Prop:=∀(N:Int) (ao:Option Addr) (xs:List Nat) (cap:Nat) (w:World),I64 N→Wd w ao xs→Fit xs→xs.length≤cap→N≤3000∧xs.length≤1048576→chk N xs=true→
 Calls Tryz.prog 27 #[.int .i64 k,.agg #[.int .i64 N,.slice ao xs.length cap]] w fun e w'=>∃cs:List Value,e=.returned (.tuple #[.agg cs.toArray,.int .i64 (kE k N xs)])∧KI w' cs (kB k N xs)∧Below w.heap.size w w'∧NFV w.heap.size cs
theorem vb_1:VB 1:=fun N ao xs cap w hN hx hf hcap hl hk=>build_1 N ao xs cap w hN hx hf hcap hl (kE_ok 1 N xs (by decide) (by decide) hk)
theorem KI.nou{w:World}{cs:List Value}{a:RA}(h:KI w cs a):Nou cs:=by
 obtain⟨cp,cr,cf,rfl,_,h1,h2,h3⟩:=h.arg;exact nou_mk h1.nou h2.nou h3.nou
theorem KI.only{w w2:World}{g base:Nat}{cs gs:List Value}{a:RA}{T:TypeId}(h:KI w cs a)(nf:NFV base cs)(hg:g<base)(hc:Cel w g gs T)(hn:Nou gs)(hO:Only g w w2):KI w2 cs a:=by
 obtain⟨⟨cp,cr,cf,rfl,k,h1,h2,h3⟩,sm⟩:=h;have l1:=h1.four;have l2:=h2.nine
 have e7:∀q,q<4→(Value.int .i64 a.K::(cp++(cr++cf)))[1+q]?=cp[q]?:=fun q hq=>by
  rw[Nat.add_comm,List.getElem?_cons_succ,List.getElem?_append_left (by omega)]
 have e8:∀q,q<9→(Value.int .i64 a.K::(cp++(cr++cf)))[5+q]?=cr[q]?:=fun q hq=>by
  rw[show 5+q=4+q+1 by omega,List.getElem?_cons_succ,List.getElem?_append_right (by omega),List.getElem?_append_left (by omega),l1,show 4+q-4=q by omega]
 have n7:NF base 2 cp:=fun ao n c e=>nf.1 ao n c (by
  rw[show(3:Nat)=1+2 from rfl,e7 2 (by decide),show(1+2+1:Nat)=1+3 from rfl,e7 3 (by decide)]
  exact e)
 have n8:NF base 7 cr:=fun ao n c e=>nf.2 ao n c (by
  rw[show(12:Nat)=5+7 from rfl,e8 7 (by decide),show(5+7+1:Nat)=5+8 from rfl,e8 8 (by decide)]
  exact e)
 have k7:KI7 w cp a.p:=⟨h1,sm.p1,sm.p2,sm.p3⟩;have k8:KI8 w cr a.r:=⟨h2,sm.r1,sm.r2,sm.r3,sm.r4⟩;have k9:KI9 w cf a.f:=⟨h3,sm.f0,sm.f1,sm.f2⟩
 exact⟨⟨cp,cr,cf,rfl,k,(k7.only n7 hg hc hn hO).arg,(k8.only n8 hg hc hn hO).arg,(k9.only hc hn hO).arg⟩,sm⟩
def z22(n:Nat):List Value:=(List.replicate n zv).flatten
theorem nou_zv:Nou zv:=by
 intro v hv n e;subst e;simp[zv]at hv
theorem Nou.flat{css:List (List Value)}(h:∀c∈css,Nou c):Nou css.flatten:=fun v hv n=>by
 obtain⟨c,hc,hv⟩:=List.mem_flatten.1 hv;exact h c hc v hv n
theorem len_flat(css:List (List Value))(h:∀c∈css,c.length=22):css.flatten.length=css.length*22:=by
 induction css with
 | nil=>rfl
 | cons a l ih=>
  rw[List.flatten_cons,List.length_append,ih (fun c hc=>h c (List.mem_cons_of_mem _ hc)),h a List.mem_cons_self,List.length_cons];omega
theorem flat_get(css:List (List Value))(h:∀c∈css,c.length=22)(l:Nat)(c:List Value)(hl:css[l]?=some c)(post:List Value):∃p q,css.flatten++post=p++(c++q)∧p.length=l*22:=by
 induction css generalizing l with
 | nil=>simp at hl
 | cons a L ih=>
  cases l with
  | zero=>
   simp at hl;subst hl;exact⟨[],L.flatten++post,by simp,rfl⟩
  | succ l=>
   obtain⟨p,q,e1,e2⟩:=ih (fun c hc=>h c (List.mem_cons_of_mem _ hc)) l (by simpa using hl);refine⟨a++p,q,?_,?_⟩
   ·rw[List.flatten_cons,List.append_assoc,e1,List.append_assoc]
   ·rw[List.length_append,h a List.mem_cons_self,e2];omega
theorem info_vec:(Tryz.prog.info? 45).map (fun i=>(i.zero,i.size,i.bytes))=some (some (.agg zv.toArray),22,320):=by kernel_rfl
theorem made_z22:(madeCells zv.toArray (8*22)).toList=z22 8:=by kernel_rfl
theorem cel_made22{w:World}{base g:Nat}{E:TypeId}(h:w.ownsRow base E 22 (.slice (some ⟨g,0,none⟩) 8 8) 8 (madeCells zv.toArray (8*22)).toList):Cel w g (z22 8) E:=by
 obtain⟨_,h | ⟨g',cap,cur,e,_,hh,_,_,hs,ht⟩⟩:=h
 ·simp at h
 ·simp only[Value.slice.injEq,Option.some.injEq,Addr.mk.injEq]at e;obtain⟨⟨rfl,_,_⟩,_,rfl⟩:=e;unfold Cel;rw[hh,←made_z22,←ht]
  have e3:cur.toList.take (8*22)=cur.toList:=List.take_of_length_le (by simp;omega);rw[e3]
theorem store_part2{ops:Array Oper}{rest:List Oper}{d:Option Tmp}{ty T TT:TypeId}{ps:String}{af:Array Edge}{a:Act}{w:World}{Q:Exit→Act→World→Prop}{x y:Operand}
  (g o:Nat) (pre old post cs:List Value) (ho:pre.length=o) (hx:a.eval x=.pointer (some ⟨g,o,none⟩)) (hy:a.eval y=.agg cs.toArray) (hc:Cel w g (pre++(old++post)) TT) (lo:old.length=cs.length) (hi:(Tryz.prog.info? T).map (·.size)=some cs.length) (h1:cs.toArray.all (·.oneCell')=true)
  (h:∀w1,Cel w1 g (pre++(cs++post)) TT→Only g w w1→wpList Tryz.prog ops Q rest (a.put d undef) w1):
  wpList Tryz.prog ops Q (⟨d,.store T x y,ty,ps,af,none⟩::rest) a w:=by
 subst ho;exact store_part g pre old post cs hx hy hc lo hi h1 h
structure Rw (w:World) (g:Nat) (k:Int) (t:List Nat) (css:List (List Value)):Prop where
 len:css.length≤8
 cel:Cel w g (css.flatten++z22 (8-css.length)) 45
 row:∀l c,css[l]?=some c→KI w c (kB k (t.length:Int) (rw_ t l))∧NFV (g+1) c
theorem Rw.keep{w w':World}{g:Nat}{k:Int}{t:List Nat}{css:List (List Value)}(h:Rw w g k t css)(hb:Below w.heap.size w w'):Rw w' g k t css:=⟨h.len,h.cel.kept hb,fun l c e=>⟨(h.row l c e).1.keep hb,(h.row l c e).2⟩⟩
theorem Rw.l22{w:World}{g:Nat}{k:Int}{t:List Nat}{css:List (List Value)}(h:Rw w g k t css):∀c∈css,c.length=22:=fun c hc=>by
 obtain⟨l,hl⟩:=List.getElem?_of_mem hc;exact(h.row l c hl).1.arg.nine.symm
theorem Rw.nou{w:World}{g:Nat}{k:Int}{t:List Nat}{css:List (List Value)}(h:Rw w g k t css):Nou (css.flatten++z22 (8-css.length)):=by
 refine Nou.app (Nou.flat fun c hc=>?_) (Nou.flat fun c hc=>?_)
 ·obtain⟨l,hl⟩:=List.getElem?_of_mem hc;exact(h.row l c hl).1.nou
 ·rw[(List.mem_replicate.1 hc).2];exact nou_zv
theorem Rw.lv{w:World}{g:Nat}{k:Int}{t:List Nat}{css:List (List Value)}(h:Rw w g k t css)(h8:css.length=8):Lv w (some ⟨g,0,none⟩) ((List.range 8).map fun l=>kB k (t.length:Int) (rw_ t l)):=fun _=>by
 refine⟨g,0,rfl,h.cel.lt,fun l hl=>?_⟩;have hl:l<8:=by simpa using hl
 obtain⟨c,hc⟩:∃c,css[l]?=some c:=⟨_,List.getElem?_eq_getElem (by omega)⟩;obtain⟨p,q,e1,e2⟩:=flat_get css h.l22 l c hc (z22 (8-css.length));refine⟨c,?_,?_⟩
 ·have:=h.cel;rw[e1]at this;have:=Cel.part p c q this;rwa [e2,←Nat.zero_add (l*22)]at this
 ·have:((List.range 8).map fun l=>kB k (t.length:Int) (rw_ t l)).getD l ra0=kB k (t.length:Int) (rw_ t l):=by
   rw[List.getD_eq_getElem?_getD,List.getElem?_map,List.getElem?_range hl];rfl
  rw[this];exact(h.row l c hc).1
theorem Rw.only{w w2:World}{g g0:Nat}{k:Int}{t:List Nat}{css:List (List Value)}{gs:List Value}{T:TypeId}(h:Rw w g k t css)(hg:g0<g)(hc:Cel w g0 gs T)(hn:Nou gs)(hO:Only g0 w w2):Rw w2 g k t css:=
 ⟨h.len,hO.cel h.cel (by omega),fun l c e=>⟨(h.row l c e).1.only (h.row l c e).2 (by omega) hc hn hO,(h.row l c e).2⟩⟩
theorem Rw.push{w w2:World}{g:Nat}{k:Int}{t:List Nat}{css:List (List Value)}{c:List Value}(h:Rw w g k t css)(hl:css.length<8)(hk:KI w c (kB k (t.length:Int) (rw_ t css.length)))(hn:NFV (g+1) c)(h2:Cel w2 g (css.flatten++(c++z22 (7-css.length))) 45)(hO:Only g w w2):Rw w2 g k t (css++[c]):=by
 refine⟨by simp;omega,?_,fun l d e=>?_⟩
 ·have e:(css++[c]).flatten++z22 (8-(css++[c]).length)=css.flatten++(c++z22 (7-css.length)):=by
   rw[List.flatten_append,List.length_append];simp
  rw[e];exact h2
 ·by_cases q:l<css.length
  ·rw[List.getElem?_append_left q]at e;obtain⟨e1,e2⟩:=h.row l d e;exact⟨e1.only e2 (Nat.lt_succ_self g) h.cel h.nou hO,e2⟩
  ·have q2:l=css.length:=by
    have:=(List.getElem?_eq_some_iff.1 e).1;simp at this;omega
   subst q2;rw[List.getElem?_append_right (Nat.le_refl _),Nat.sub_self]at e;simp at e;subst e;exact⟨hk.only hn (Nat.lt_succ_self g) h.cel h.nou hO,hn⟩
def tB(k:Int)(t:List Nat):TR:=⟨k,(t.length:Int),(List.range 8).map fun l=>kB k (t.length:Int) (rw_ t l)⟩
def tbE(k:Int):Int:=if 1≤k∧k≤3 then 0 else 5
def tBx(k:Int)(t:List Nat):TR:=if tbE k=0 then tB k t else ⟨0,0,[]⟩
theorem chk_rw(t:List Nat)(l:Nat)(h:t.length≤8192):chk (t.length:Int) (rw_ t l)=true:=chk_rowOf _ _ (by omega)
theorem kE_rw(k:Int)(t:List Nat)(l:Nat)(h:t.length≤8192):kE k (t.length:Int) (rw_ t l)=tbE k:=by
 by_cases c:1≤k∧k≤3
 ·rw[kE_ok k _ _ c.1 c.2 (chk_rw t l h)];unfold tbE;rw[if_pos c]
 ·unfold kE tbE;rw[if_neg c,if_neg (by omega),if_neg (by omega),if_neg (by omega)]
theorem build_tg(k:Int)(ao:Option Addr)(t:List Nat)(cap:Nat)(w:World)(hK:I64 k)(hx:Bd w ao t)(hB:Tw.Byt t)(hn:t.length≤3000)(BV:VB k):
  Calls Tryz.prog 9 #[.int .i64 k,.slice ao t.length cap] w fun e w'=>∃lo lc,e=.returned (.tuple #[.agg #[.int .i64 (tBx k t).K,.int .i64 (tBx k t).N,.slice lo (tBx k t).av.length lc],.int .i64 (tbE k)])∧TI w' lo lc (tBx k t)∧Below w.heap.size w w':=by
 obtain⟨i0,hi,hz0,hz1,hz2⟩:=info_parts info_vec
 have RO:Hid (∀w0 l,l<8→Below w.heap.size w w0→Calls Tryz.prog 28 #[.slice ao t.length cap,.int .i64 ((l:Nat):Int)] w0 fun e w'=>∃bo dap,e=.returned (.agg #[.int .i64 t.length,.slice bo (rw_ t l).length dap])∧Wd w' bo (rw_ t l)∧(rw_ t l).length≤dap∧Below w0.heap.size w0 w'):=fun w0 l hl hb=>trow_c ao t cap l w0 (hx.keep hb) hB hl (by omega)
 have BK:Hid (∀w0 l bo dap,l<8→Wd w0 bo (rw_ t l)→(rw_ t l).length≤dap→Calls Tryz.prog 27 #[.int .i64 k,.agg #[.int .i64 t.length,.slice bo (rw_ t l).length dap]] w0 fun e w'=>∃cs:List Value,e=.returned (.tuple #[.agg cs.toArray,.int .i64 (tbE k)])∧KI w' cs (kB k (t.length:Int) (rw_ t l))∧Below w0.heap.size w0 w'∧NFV w0.heap.size cs):=fun w0 l bo dap hl h1 h2=>by
  have:=BV (t.length:Int) bo (rw_ t l) dap w0 ⟨by omega,by omega⟩ h1 (fit_rowOf _ _) h2 ⟨by omega,by rw[length_rw_];omega⟩ (chk_rw t l (by omega));rw[kE_rw k t l (by omega)]at this;exact this
 have LR:Hid (∀l,(rw_ t l).length=(t.length+63)/64):=fun l=>length_rw_ t l;obtain⟨n,hnn⟩:∃n,Hid (n=t.length):=⟨_,rfl⟩;have hn2:n≤3000:=by rw[hnn.out];exact hn
 rw[←hnn.out]at RO BK⊢;obtain⟨E,hE⟩:∃E,Hid (E=tbE k):=⟨_,rfl⟩;rw[←hE.out]at BK⊢;clear hn hx BV;have n1:¬(8192:Int)<(n:Int):=by omega
 go_enter Tryz.func9,Tryz.ntmps9;go_wp2_with (at_make;refine wpList_make_full _ rfl _ _ 24 rfl (w.heap.size+1) 45 i0 (.agg zv.toArray) 22 Tryz.underlying24 hi hz0 hz1 .i64 .i64 _ _ 8 rfl rfl rfl rfl ?b2 ?b3 ?b4 ?_)
 case b3=>unfold maxLen;decide
 intro w1 hown hgr;have g1:=cel_made22 hown;have hz:(w.alloc (.cells [.int .i64 0,.int .i64 0,.slice none 0 0].toArray 26)).heap.size=w.heap.size+1:=by simp
 have b1:Below (w.heap.size+1) (w.alloc (.cells [.int .i64 0,.int .i64 0,.slice none 0 0].toArray 26)) w1:=(Below.refl _ _).grown hgr (by rw[hz];exact Nat.le_refl _) (fun k h=>by cases h)
 have c4:Cel w1 w.heap.size [.int .i64 0,.int .i64 0,.slice none 0 0] 26:=(Cel.new w _ _).keep b1 (by omega);have bA:Below w.heap.size w w1:=(below_alloc w _).trans (b1.mono (by omega))
 have hs1:w.heap.size+1<w1.heap.size:=g1.lt;clear hown hgr b1 hz hi hz0 hz1 hz2;obtain⟨gL,hgL⟩:∃gL,gL=w.heap.size+1:=⟨_,rfl⟩;rw[←hgL]at g1 hs1⊢;have l4:w.heap.size<gL:=by omega
 clear hgL;have c6:=Cel.new w1 [.int .i64 k,.int .i64 (n:Int),.slice (some ⟨gL,0,none⟩) 8 8] 26;have b6:=below_alloc w1 (.cells [.int .i64 k,.int .i64 (n:Int),.slice (some ⟨gL,0,none⟩) 8 8].toArray 26)
 replace g1:=g1.kept b6;replace c4:=c4.kept b6;replace bA:=bg bA b6;clear b6
 have R0:Rw (w1.alloc (.cells [.int .i64 k,.int .i64 (n:Int),.slice (some ⟨gL,0,none⟩) 8 8].toArray 26)) gL k t []:=⟨by simp,g1,fun l c e=>by simp at e⟩;clear g1;go_wp2;generalize w1.heap.size=g6 at *
 go_loopw [19] (fun s wr=>∃(q:Nat) (css:List (List Value)),q≤8∧s=.int .i64 q∧Hid (css.length=q)∧Hid (0<q→E=0)∧Rw wr gL k t css∧Cel wr g6 [.int .i64 k,.int .i64 (n:Int),.slice (some ⟨gL,0,none⟩) 8 8] 26∧Cel wr w.heap.size [.int .i64 0,.int .i64 0,.slice none 0 0] 26∧Below w.heap.size w wr) (fun s _=>8-(intOf s).toNat)
 case atStart=>exact⟨0,[],Nat.zero_le _,rfl,rfl,fun h=>absurd h (by decide),R0,c6,c4,bA⟩
 case round=>
  obtain⟨q,css,hq,rfl,hl,h0,hR,h6,h4,hb⟩:=hrel;clear R0 c6 c4 bA;by_cases hi:q<8
  ·have hi2:(q:Int)<8:=by omega
   have hLR:=LR.out q;rw[←hnn.out]at hLR;have RO1:=Hid.mkt (fun w0 hb=>RO.out w0 q hi hb);have BK1:=Hid.mkt (fun w0 bo dap h1 h2=>BK.out w0 q bo dap hi h1 h2);clear RO BK LR;generalize (rw_ t q).length=m at *
   clear hLR;go_wp2_with fail;refine(RO1.out _ hb).mono ?_;rintro e w2 ⟨bo,dap,rfl,x1,x2,hb2⟩;replace hR:=hR.keep hb2;replace h6:=h6.kept hb2;replace h4:=h4.kept hb2;replace hb:=bg hb hb2
   clear hb2 RO1;go_wp2_with fail;refine(BK1.out _ bo dap x1 x2).mono ?_;rintro e w3 ⟨cs,rfl,hki,hb3,nf⟩;have lL:=hR.cel.lt;replace hR:=hR.keep hb3;replace h6:=h6.kept hb3;replace h4:=h4.kept hb3
   replace hb:=bg hb hb3;replace nf:NFV (gL+1) cs:=⟨nf.1.mono lL,nf.2.mono lL⟩;clear hb3 BK1 x1 x2;have HL:=Hid.mkt hki.arg.len;have H1:=Hid.mkt hki.arg.one
   have H22:=Hid.mkt (len_zv.trans hki.arg.nine);have lx:w.heap.size<w3.heap.size:=h4.lt;have l6':g6<w3.heap.size:=h6.lt;have lL':gL<w3.heap.size:=hR.cel.lt;go_wp2_with (refine alloc_z zv info_zv ?_)
   intro w4 c4 b4 s4;go_wp2_with (refine store_cel w3.heap.size zv cs rfl rfl c4 H22.out HL.out H1.out ?_);intro w5 c5 o5;have b5:Below w3.heap.size w3 w5:=b4.trans (o5.below (Nat.le_refl _));replace hR:=hR.keep b5
   replace h6:=h6.kept b5;replace h4:=h4.kept b5;replace hki:=hki.keep b5;replace hb:=bg hb b5;clear c4 b4 s4 o5 b5;generalize w3.heap.size=g8 at *;by_cases z:E=0
   ·subst z;have ez:z22 (8-css.length)=zv++z22 (7-q):=by rw[hl.out,show 8-q=7-q+1 by omega];rfl
    have ep:css.flatten.length=q*22:=by rw[len_flat css hR.l22,hl.out]
    have cL:=hR.cel;rw[ez]at cL;have HR:=Hid.mkt hR;have HK:=Hid.mkt hki;have HP:=Hid.mkt ep;have x2:=h6.cell 2 rfl;clear hR hki ez ep
    go_wp2_with (first | refine load_obj g8 cs (by rfl) rfl c5 Tryz.underlying45 HL.out ?_ | refine store_part2 gL (q*22) css.flatten zv (z22 (7-q)) cs HP.out rfl rfl cL H22.out HL.out H1.out ?_);intro w6 c6 o6
    have hR6:Rw w6 gL k t (css++[cs]):=HR.out.push (by rw[hl.out];exact hi) (by rw[hl.out,←hnn.out];exact HK.out) nf (by rw[hl.out];exact c6) o6
    have HF:=Hid.mkt (And.intro (show(css++[cs]).length=q+1 by rw[List.length_append,hl.out];rfl) (And.intro (show 0<q+1→(0:Int)=0 from fun _=>rfl) (And.intro hR6 (And.intro (o6.cel h6 (by omega)) (And.intro (o6.cel h4 (by omega)) (hb.trans (o6.below (by omega))))))))
    clear c6 o6 hR6 x2 c5 cL HR HK HP h6 h4 hb nf;go_wp2;exact⟨⟨q+1,css++[cs],by omega,by go_num,HF.out.1,fun _=>trivial,HF.out.2.2⟩,by simp only[intOf];omega⟩
   ·have zz:(E != 0)=true:=by simp[z]
    have eB:tBx k t=⟨0,0,[]⟩:=by unfold tBx;rw[if_neg (by rw[←hE.out];exact z)]
    clear hR h6 hki c5;go_wp2_with (refine store_cel w.heap.size [.int .i64 0,.int .i64 0,.slice none 0 0] [.int .i64 0,.int .i64 0,.slice none 0 0] rfl rfl h4 rfl (by kernel_rfl) (by simp[Value.oneCell']) ?_)
    intro w6 c6 o6;have HC:=Hid.mkt (And.intro c6 (hb.trans (o6.below (Nat.le_refl _))));clear c6 o6 h4 hb;go_wp2
    (try simp only[Exit.inBlock,Exit.then]);refine bodyPost_ret (result_cel rfl w.heap.size _ rfl HC.out.1 Tryz.underlying26 (by kernel_rfl)) rfl ⟨none,0,?_,?_,HC.out.2⟩
    ·rw[eB];rfl
    ·rw[eB];exact⟨⟨by decide,by decide⟩,⟨by decide,by decide⟩,Nat.le_refl _,fun h=>absurd h (by decide)⟩
  ·obtain rfl:q=8:=by omega
   clear RO BK LR;have x0:=h6.cell 0 rfl;have x1:=h6.cell 1 rfl;have x2:=h6.cell 2 rfl;have HR:=Hid.mkt hR;have l6':=h6.lt
   go_wp2_with (refine store_cel w.heap.size [.int .i64 0,.int .i64 0,.slice none 0 0] [.int .i64 k,.int .i64 (n:Int),.slice (some ⟨gL,0,none⟩) 8 8] rfl rfl h4 rfl (by kernel_rfl) (by simp[Value.oneCell']) ?_)
   intro w6 c6 o6;have hR6:=HR.out.only l4 h4 (fun v hv n e=>by subst e;simp at hv) o6;have HC:=Hid.mkt (And.intro c6 (And.intro (hR6.lv hl.out) (hb.trans (o6.below (Nat.le_refl _)))))
   clear c6 o6 h4 hb hR6 x0 x1 x2 HR hR h6;go_wp2
   (try simp only[Exit.inBlock,Exit.then]);have z:=h0.out (by decide)
   ·subst z;have eB:tBx k t=tB k t:=by unfold tBx;rw[if_pos hE.out.symm]
    refine bodyPost_ret (result_cel rfl w.heap.size _ rfl HC.out.1 Tryz.underlying26 (by kernel_rfl)) rfl ⟨some ⟨gL,0,none⟩,8,?_,?_,HC.out.2.2⟩
    ·rw[eB];unfold tB;rw[←hnn.out];rfl
    ·rw[eB];exact⟨hK,⟨by show _≤((t.length:Nat):Int);omega,by show((t.length:Nat):Int)≤_;rw[←hnn.out];omega⟩,by simp[tB],HC.out.2.1⟩
end Go.Proofs.YtjahipjghenbjaaGreatDoor
