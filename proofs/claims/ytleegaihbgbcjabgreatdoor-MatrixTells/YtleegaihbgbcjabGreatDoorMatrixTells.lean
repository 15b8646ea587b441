/-
  MatrixTells: what a matrix of whatever rows tells is what the document says.
-/
import Derived.Test.YtleegaihbgbcjabGreatDoorT28
import Derived.Test.YtleegaihbgbcjabGreatDoorCards
import Derived.Test.YtleegaihbgbcjabGreatDoorTie
import Derived.LaidMore
set_option linter.unusedVariables false
set_option linter.unusedSimpArgs false
set_option maxRecDepth 100000
set_option maxHeartbeats 16000000
open Go.Proofs.Tryz
namespace Go.Proofs.YtleegaihbgbcjabGreatDoor.matrixTells
open Go.ChangeShapes Go.WideShapes Go.ChangeAt Go.RowKit Num Bit
theorem walk(w:World)(G:GV w)(lx:Option Addr)(cx:Nat)(zx:Option Addr)(dx:Nat)(x:MR)(Tx:jM w lx cx zx dx x)(c:Int)(hc_:0<=c/\c<256)(i:Int)(hi_: -9223372036854775808<=i/\i<=9223372036854775807):
  Qq 5 #[.agg #[.int .i64 x.K,.int .i64 x.N,.slice lx x.av.length cx,.slice zx x.zs.length dx],.int .u8 c,.int .i64 i] w (.bool true):=by
 obtain⟨c,rfl⟩:=Int.eq_ofNat_of_zero_le hc_.1;have hc:c<256:=by omega
 have HH:Hid (Qz w 7 #[] (.bool true)):=fun w0 h=>Fq w0 (G.keep h)
 have HT:Hid (mSm x->∀w0,Below w.heap.size w w0->MI w0 lx cx zx dx x):=fun h w0 hb=>(Tx.mi h G).keep hb
 have HW:Hid (mSm x->∀w0,Below w.heap.size w w0->ie w0 x.K x.N lx x.av.length cx zx x.zs.length dx (mT x) (mOk x)):=fun h w0 hb=>(HT.out h w0 hb).wh h.1 h.2.1
 have SM:Hid (∀w0,Below w.heap.size w w0->Calls prog 15 #[.agg #[.int .i64 x.K,.int .i64 x.N,.slice lx x.av.length cx,.slice zx x.zs.length dx]] w0 fun e w'=>∃B,e=.returned (.bool B)/\(B=true->mSm x)/\Below w0.heap.size w0 w'):=fun w0 hb=>zF lx cx zx dx x w0 (Tx.keep hb) Tx.n
 have A1:Hid (mSm x->Qz w 9 #[.agg #[.int .i64 x.K,.int .i64 x.N,.slice lx x.av.length cx,.slice zx x.zs.length dx],.int .i64 i] (.tuple #[.int .u8 ((if mOk x then saC (mT x) i else 0:Nat):Int),.int .i64 (if mOk x then dB (mT x) i else 2)])):=fun h w0 hb=>D3 lx cx zx dx x i w0 (HT.out h w0 hb) h.2.1 hi_
 have A2:Hid (mSm x->Qz w 16 #[.agg #[.int .i64 x.K,.int .i64 x.N,.slice lx x.av.length cx,.slice zx x.zs.length dx],.int .i64 i] (.tuple #[.int .u8 ((if mOk x then saC (mT x) i else 0:Nat):Int),.int .i64 (if mOk x then dB (mT x) i else 2)])):=fun h w0 hb=>zM i (HW.out h w0 hb) (qa x h.2.1) hi_
 have R1:Hid (mSm x->Qz w 10 #[.agg #[.int .i64 x.K,.int .i64 x.N,.slice lx x.av.length cx,.slice zx x.zs.length dx],.int .u8 c,.int .i64 i] (.tuple #[.int .i64 (if mOk x then eW (mT x) c i else 0),.int .i64 (if mOk x then dH (mT x) i else 2)])):=fun h w0 hb=>Dw lx cx zx dx x c i w0 (HT.out h w0 hb) h.2.1 hc hi_
 have R2:Hid (mSm x->Qz w 17 #[.agg #[.int .i64 x.K,.int .i64 x.N,.slice lx x.av.length cx,.slice zx x.zs.length dx],.int .u8 c,.int .i64 i] (.tuple #[.int .i64 (if mOk x then eW (mT x) c i else 0),.int .i64 (if mOk x then dH (mT x) i else 2)])):=fun h w0 hb=>zK c i (HW.out h w0 hb) (qa x h.2.1) hc hi_
 have S1:Hid (mSm x->Qz w 18 #[.agg #[.int .i64 x.K,.int .i64 x.N,.slice lx x.av.length cx,.slice zx x.zs.length dx],.int .u8 c,.int .i64 i] (.tuple #[.int .i64 (if mOk x then ssN (mT x) c i else 0),.int .i64 (if mOk x then ssE (mT x) c i else 2)])):=fun h w0 hb=>Dt lx cx zx dx x c i w0 (HT.out h w0 hb) h.2.1 hc hi_
 have S2:Hid (mSm x->Qz w 19 #[.agg #[.int .i64 x.K,.int .i64 x.N,.slice lx x.av.length cx,.slice zx x.zs.length dx],.int .u8 c,.int .i64 i] (.tuple #[.int .i64 (if mOk x then ssN (mT x) c i else 0),.int .i64 (if mOk x then ssE (mT x) c i else 2)])):=fun h w0 hb=>zH c i (HW.out h w0 hb) (qa x h.2.1) hc hi_
 have C1:Hid (mSm x->Qz w 20 #[.agg #[.int .i64 x.K,.int .i64 x.N,.slice lx x.av.length cx,.slice zx x.zs.length dx]] (.bool (mOk x))):=fun h w0 hb=>jW lx cx zx dx x w0 (HT.out h w0 hb)
 have C2:Hid (mSm x->Qz w 21 #[.agg #[.int .i64 x.K,.int .i64 x.N,.slice lx x.av.length cx,.slice zx x.zs.length dx]] (.bool (mOk x))):=fun h w0 hb=>sK (HW.out h w0 hb)
 have Z1:Hid (mSm x->Qz w 13 #[.agg #[.int .i64 x.K,.int .i64 x.N,.slice lx x.av.length cx,.slice zx x.zs.length dx]] (.int .i64 (mZs x))):=fun h w0 hb=>tU lx cx zx dx x w0 (HT.out h w0 hb)
 have Z2:Hid (mSm x->Qz w 14 #[.agg #[.int .i64 x.K,.int .i64 x.N,.slice lx x.av.length cx,.slice zx x.zs.length dx]] (.int .i64 (mZs x))):=fun h w0 hb=>by rw[yB];exact zG lx cx zx dx x w0 (HT.out h w0 hb) fun w1 h1=>sK (HW.out h w1 (bg hb h1))
 have T1:Hid (mSm x->∀w0,Below w.heap.size w w0->Calls prog 22 #[.agg #[.int .i64 x.K,.int .i64 x.N,.slice lx x.av.length cx,.slice zx x.zs.length dx]] w0 fun e w'=>∃bo bc,e=.returned (.slice bo (mT x).length bc)/\Bd w' bo (mT x)/\Below w0.heap.size w0 w'):=fun h w0 hb=>Dq lx cx zx dx x w0 (HT.out h w0 hb) h.2.1
 have T2:Hid (mSm x->∀w0,Below w.heap.size w w0->Calls prog 23 #[.agg #[.int .i64 x.K,.int .i64 x.N,.slice lx x.av.length cx,.slice zx x.zs.length dx]] w0 fun e w'=>∃bo bc,e=.returned (.slice bo (mT x).length bc)/\Bd w' bo (mT x)/\Below w0.heap.size w0 w'):=fun h w0 hb=>zE (HW.out h w0 hb)
 have CV:Hid (∀(w0:World) ao cap,Bd w0 ao (mT x)->(convert 22 9 (.slice ao (mT x).length cap)).run prog w0=.ok (.string (strOfNums (nums (mT x)))) w0):=fun w0 ao cap h=>conv cap h
 have bx:=aa.new w [.int .i64 x.K,.int .i64 x.N,.slice lx x.av.length cx,.slice zx x.zs.length dx] 27;have bw:=below_alloc w (.cells #[.int .i64 x.K,.int .i64 x.N,.slice lx x.av.length cx,.slice zx x.zs.length dx] 27)
 clear HT HW Tx hc_ hi_ hc G;generalize mSm x=PP at *;generalize mZs x=Z at *;generalize strOfNums (nums (mT x))=SS at *;obtain⟨ac,hac⟩:∃ac,Hid ((if mOk x then saC (mT x) i else 0)=ac):=⟨_,rfl⟩
 obtain⟨ae,hae⟩:∃ae,Hid ((if mOk x then dB (mT x) i else 2)=ae):=⟨_,rfl⟩;obtain⟨rn,hrn⟩:∃rn,Hid ((if mOk x then eW (mT x) c i else 0)=rn):=⟨_,rfl⟩
 obtain⟨re,hre⟩:∃re,Hid ((if mOk x then dH (mT x) i else 2)=re):=⟨_,rfl⟩;obtain⟨sx,hsx⟩:∃sx,Hid ((if mOk x then ssN (mT x) c i else 0)=sx):=⟨_,rfl⟩
 obtain⟨se,hse⟩:∃se,Hid ((if mOk x then ssE (mT x) c i else 2)=se):=⟨_,rfl⟩;rw[hac.out,hae.out]at A1 A2;rw[hrn.out,hre.out]at R1 R2;rw[hsx.out,hse.out]at S1 S2;clear hac hae hrn hre hsx hse
 generalize mT x=t at *;generalize mOk x=ok at *;generalize x.K=K at *;generalize x.N=N at *;generalize x.av.length=m at *;generalize x.zs.length=m2 at *;go_enter func5,ntmps5;go_wp2_with fail
 refine(SM.out _ bw).mono ?_;rintro e w1 ⟨B,rfl,hB,hb⟩;replace bx:=bx.kept hb;replace bw:=bg bw hb;clear hb SM;cases B with
 | false=>
  go_wp2_with fail;refine mr (HH.out _ bw) fun w9 hb=>?_;replace bw:=bg bw hb;go_wp2;go_ret;exact⟨rfl,bw⟩
 | true=>
  have hp:=hB rfl;clear hB;have y0:=bx.cell 0 rfl;have y1:=bx.cell 1 rfl;have y2:=bx.cell 2 rfl;have y3:=bx.cell 3 rfl;go_wp2_with fail;refine mr (A1.out hp _ bw) fun w2 hb=>?_;replace bx:=bx.kept hb
  replace bw:=bg bw hb;clear hb A1 y0 y1 y2 y3;have y0:=bx.cell 0 rfl;have y1:=bx.cell 1 rfl;have y2:=bx.cell 2 rfl;have y3:=bx.cell 3 rfl;go_wp2_with fail;refine mr (A2.out hp _ bw) fun w3 hb=>?_;replace bx:=bx.kept hb;replace bw:=bg bw hb;clear hb A2 y0 y1 y2 y3;have y0:=bx.cell 0 rfl;have y1:=bx.cell 1 rfl;have y2:=bx.cell 2 rfl;have y3:=bx.cell 3 rfl
  go_wp2_with fail;refine mr (R1.out hp _ bw) fun w4 hb=>?_;replace bx:=bx.kept hb;replace bw:=bg bw hb;clear hb R1 y0 y1 y2 y3;have y0:=bx.cell 0 rfl;have y1:=bx.cell 1 rfl
  have y2:=bx.cell 2 rfl;have y3:=bx.cell 3 rfl;go_wp2_with fail;refine mr (R2.out hp _ bw) fun w5 hb=>?_;replace bx:=bx.kept hb;replace bw:=bg bw hb;clear hb R2 y0 y1 y2 y3
  have y0:=bx.cell 0 rfl;have y1:=bx.cell 1 rfl;have y2:=bx.cell 2 rfl;have y3:=bx.cell 3 rfl;go_wp2_with fail;refine mr (S1.out hp _ bw) fun w6 hb=>?_;replace bx:=bx.kept hb
  replace bw:=bg bw hb;clear hb S1 y0 y1 y2 y3;have y0:=bx.cell 0 rfl;have y1:=bx.cell 1 rfl;have y2:=bx.cell 2 rfl;have y3:=bx.cell 3 rfl;go_wp2_with fail;refine mr (S2.out hp _ bw) fun w8 hb=>?_;replace bx:=bx.kept hb;replace bw:=bg bw hb;clear hb S2 y0 y1 y2 y3;go_wp2
  refine bm [] (fun w'=>aa w' w.heap.size [.int .i64 K,.int .i64 N,.slice lx m cx,.slice zx m2 dx] 27/\Below w.heap.size w w') (by kernel_rfl) ?_
  have hS:(fun w'=>aa w' w.heap.size [.int .i64 K,.int .i64 N,.slice lx m cx,.slice zx m2 dx] 27/\Below w.heap.size w w') w8.drew:=⟨bx.drew,bw.drew⟩;clear bx bw;generalize w8.drew=V at *
  refine aF 0 hS rfl (fun w0 h0=>by have y0:=h0.1.cell 0 rfl;have y1:=h0.1.cell 1 rfl;have y2:=h0.1.cell 2 rfl;have y3:=h0.1.cell 3 rfl;go_simp;try with_reducible rfl) ?_
  refine aF 2 hS rfl (fun w0 h0=>by have y0:=h0.1.cell 0 rfl;have y1:=h0.1.cell 1 rfl;have y2:=h0.1.cell 2 rfl;have y3:=h0.1.cell 3 rfl;go_simp;try with_reducible rfl) ?_;refine aO 1 ?_;intro K hK;go_simp
  refine mr (C1.out hp _ hS.2) fun v1 hb=>?_;replace hS:=And.intro (hS.1.kept hb) (hS.2.trans (hb.mono hS.2.size));clear hb;refine hK.out _ _ (fun _=>hS) ?_;clear hK K
  try simp only[Act.put,ar,an,am,ah,aj,ai]
  refine aO 3 ?_;intro K hK;go_simp;refine mr (C2.out hp _ hS.2) fun v3 hb=>?_;replace hS:=And.intro (hS.1.kept hb) (hS.2.trans (hb.mono hS.2.size));clear hb;refine hK.out _ _ (fun _=>hS) ?_;clear hK K
  try simp only[Act.put,ar,an,am,ah,aj,ai]
  refine aK 4 hS ?_;refine aK 5 hS ?_
  refine aF 6 hS rfl (fun w0 h0=>by have y0:=h0.1.cell 0 rfl;have y1:=h0.1.cell 1 rfl;have y2:=h0.1.cell 2 rfl;have y3:=h0.1.cell 3 rfl;go_simp;try with_reducible rfl) ?_
  refine aF 8 hS rfl (fun w0 h0=>by have y0:=h0.1.cell 0 rfl;have y1:=h0.1.cell 1 rfl;have y2:=h0.1.cell 2 rfl;have y3:=h0.1.cell 3 rfl;go_simp;try with_reducible rfl) ?_;refine aO 7 ?_;intro K hK;go_simp
  refine mr (Z1.out hp _ hS.2) fun v7 hb=>?_;replace hS:=And.intro (hS.1.kept hb) (hS.2.trans (hb.mono hS.2.size));clear hb;refine hK.out _ _ (fun _=>hS) ?_;clear hK K
  try simp only[Act.put,ar,an,am,ah,aj,ai]
  refine aO 9 ?_;intro K hK;go_simp;refine mr (Z2.out hp _ hS.2) fun v9 hb=>?_;replace hS:=And.intro (hS.1.kept hb) (hS.2.trans (hb.mono hS.2.size));clear hb;refine hK.out _ _ (fun _=>hS) ?_;clear hK K
  try simp only[Act.put,ar,an,am,ah,aj,ai]
  refine aK 10 hS ?_;refine aK 11 hS ?_;refine aK 12 hS ?_
  refine aF 13 hS rfl (fun w0 h0=>by have y0:=h0.1.cell 0 rfl;have y1:=h0.1.cell 1 rfl;have y2:=h0.1.cell 2 rfl;have y3:=h0.1.cell 3 rfl;go_simp;try with_reducible rfl) ?_
  refine aF 16 hS rfl (fun w0 h0=>by have y0:=h0.1.cell 0 rfl;have y1:=h0.1.cell 1 rfl;have y2:=h0.1.cell 2 rfl;have y3:=h0.1.cell 3 rfl;go_simp;try with_reducible rfl) ?_;refine aO 14 ?_;intro K hK
  go_simp;refine(T1.out hp _ hS.2).mono ?_;rintro e v14 ⟨bo,bc,rfl,hd,hb⟩;replace hS:=And.intro (hS.1.kept hb) (hS.2.trans (hb.mono hS.2.size));clear hb;refine hK.out _ _ (fun _=>hS) ?_;clear hK K
  try simp only[Act.put,ar,an,am,ah,aj,ai]
  refine aw.moreM (E:=fun w'=>Bd w' bo t) _ _ _ _ hS hd ?_;replace hS:=And.intro hS hd;clear hd;refine aF 15 hS rfl (fun w0 h0=>by have cv:=CV.out w0 bo bc h0.2;go_simp;try with_reducible rfl) ?_
  refine aO 17 ?_;intro K hK;go_simp;refine(T2.out hp _ hS.1.2).mono ?_;rintro e v17 ⟨b2,c2,rfl,hd,hb⟩;replace hS:=And.intro (And.intro (hS.1.1.kept hb) (hS.1.2.trans (hb.mono hS.1.2.size))) (hS.2.keep hb);clear hb
  refine hK.out _ _ (fun _=>hS) ?_;clear hK K;try simp only[Act.put,ar,an,am,ah,aj,ai]
  refine aw.moreM (E:=fun w'=>Bd w' b2 t) _ _ _ _ hS hd ?_;replace hS:=And.intro hS hd;clear hd;refine aF 18 hS rfl (fun w0 h0=>by have cv:=CV.out w0 b2 c2 h0.2;go_simp;try with_reducible rfl) ?_
  refine aK 19 hS ?_;refine aK 20 hS ?_;refine aK 21 hS ?_;refine aO 22 ?_;intro K hK;go_simp;refine mr (HH.out _ hS.1.1.2) fun v22 hb=>?_
  replace hS:=And.intro (And.intro (And.intro (hS.1.1.1.kept hb) (hS.1.1.2.trans (hb.mono hS.1.1.2.size))) (hS.1.2.keep hb)) (hS.2.keep hb);clear hb;refine hK.out _ _ (fun _=>hS) ?_;clear hK K
  try simp only[Act.put,ar,an,am,ah,aj,ai]
  refine aK 23 hS ?_;refine aO 24 ?_;intro K hK;go_simp;refine hK.out _ _ (fun _=>hS) ?_;clear hK K;try simp only[Act.put,ar,an,am,ah,aj,ai]
  refine aw.done (by kernel_rfl) ?_ _;go_wp2;go_ret;exact⟨rfl,hS.1.1.2⟩
theorem door_met(os:Os)(args:Array Value):laidMetH prog [("errors.errorType",Rows.laid_errors_errorType),("haystack/rrr.ways",Rows.laid_haystack_rrr_ways),("haystack/rrr.widths",Rows.laid_haystack_rrr_widths)] ((World.doorLaid prog 400 os).forCall (fun _ _=>0) ⟨#[],args,[]⟩).memory:=
 laidMetH_of_parts3 (fuel:=8) (laidMet_of_run' 8 (by kernel_rfl) (by kernel_rfl)) (by kernel_rfl) (by kernel_rfl)
theorem lifted(os:Os)(started:os.Started)(H:Type)(enc:TypeId×Value->H):
  ReturnsInHanded {} Tryz.checked os 5 .any (fun w args=>(Rows.matrixTellsSpec.pre enc prog Tryz.f5 [] false w args/\laidMetH prog [("errors.errorType",Rows.laid_errors_errorType),("haystack/rrr.ways",Rows.laid_haystack_rrr_ways),("haystack/rrr.widths",Rows.laid_haystack_rrr_widths)] w)/\sizedMet enc prog Tryz.f5 (OpenSpec.ofChange Rows.matrixTellsSpec) false w args)
   (Rows.matrixTellsSpec.post enc prog Tryz.f5 false true false false):=by
 refine returnsInHanded_of_change_and (C:=Tryz.checked) (X:=fun w _=>laidMetH prog [("errors.errorType",Rows.laid_errors_errorType),("haystack/rrr.ways",Rows.laid_haystack_rrr_ways),("haystack/rrr.widths",Rows.laid_haystack_rrr_widths)] w) (fun _ _ _ hh h=>h.of_heap hh) own started (by kernel_rfl) func5
  (ChangeSpec.witness_shaped (enc:=enc) (C:=Tryz.checked) (os:=os) (X:=fun w _=>laidMetH prog [("errors.errorType",Rows.laid_errors_errorType),("haystack/rrr.ways",Rows.laid_haystack_rrr_ways),("haystack/rrr.widths",Rows.laid_haystack_rrr_widths)] w) false (World.doorLaid prog 400 os) #[.agg #[.int .i64 0,.int .i64 0,.slice none 0 0,.slice none 0 0],.int .u8 0,.int .i64 0] 8 rfl (World.shaped_of_RefB (by kernel_rfl) (by kernel_rfl)) (by kernel_rfl) (by kernel_rfl) (by kernel_rfl) (door_met os _)) ?_
 intro W base args ds gs before hval0 hW _ _ hL _;have hval:∀(j:Nat) t v,Tryz.f5.params[j]?=some t->args[j]?=some v->Value.okWide prog W .any base t v:=hval0;have hW':=hW
 obtain⟨p,q,hA0,hV,rfl,hfz,hnd⟩:=hW;have hA:DataW.TrodAll enc prog W 0 (fun _=>true) true Tryz.f5.params.toList args.toList ds p:=hA0;rw[Tryz.params5]at hA hval
 obtain⟨v0,vs0,d0,ds0,p0,q0,hargs,rfl,rfl,h0,r0⟩:=trodAll_cons hA;obtain⟨v1,vs1,d1,ds1,p1,q1,rfl,rfl,rfl,h1,r1⟩:=trodAll_cons r0;obtain⟨v2,vs2,d2,ds2,p2,q2,rfl,rfl,rfl,h2,r2⟩:=trodAll_cons r1
 obtain⟨rfl,rfl,rfl⟩:=trodAll_nil r2;obtain rfl:args=#[v0,v1,v2]:=by cases args;simp_all
 obtain⟨rfl,rfl⟩:=trodVars_none hV;have k0:=h0;have lt0:∀x∈p0,x.block<W.heap.size:=by obtain⟨m,hm⟩:=k0;exact DataW.trod_lt m _ _ _ hm
 obtain⟨lx,cx,zx,dx,x,rfl,b01⟩:=Cn (hval 0 27 v0 rfl rfl) h0;obtain⟨c,rfl,rfl,rfl,w1⟩:=open_int underlying5 (hval 1 5 v1 rfl rfl) h1
 obtain⟨i,rfl,rfl,rfl,w2⟩:=open_int underlying3 (hval 2 3 v2 rfl rfl) h2;clear hA0 hval0;refine(walk W (Fs hL) lx cx zx dx x b01 c (xR _ w1) i (qx _ w2)).mono fun e W' ⟨he,bel⟩=>?_;subst he
 exact⟨_,rfl,_,_,_,[],_,[],hW',trodAll_mk1 (shut_bool underlying4 _),(trodAll_cons_mk (Below.trod EJ (by kernel_rfl) (of_decide_eq_true (by kernel_rfl)) k0 bel lt0) (trodAll_cons_mk (shut_int underlying5 w1) (trodAll_cons_mk (shut_int underlying3 w2) trodAll_mk0))),rfl,bel.frame _,fun h=>by cases h⟩
theorem closed:joinedFacts prog 5 Tryz.f5 Rows.matrixTellsSpec Rows.matrixTellsRow=true:=by
 unfold joinedFacts;repeat' (with_reducible apply Jb);all_goals decide +kernel
theorem over:Rows.matrixTellsRow.holds Tryz.pinned (OpenSpec.ofChange Rows.matrixTellsSpec):=
 OpenClaim.holds_of_wide 5 Tryz.f5 rfl rfl rfl rfl rfl rfl rfl ⟨rfl,rfl,rfl,rfl,rfl⟩ rfl rfl rfl rfl rfl (by kernel_rfl) func5 closed
  (of_decide_eq_true (by kernel_rfl)) (by unfold Func.isWrapper;first | (rw[if_pos (by decide +kernel)];kernel_rfl) | (rw[if_neg (by decide +kernel)];exact⟨rfl,rfl⟩))
  (fun os started H enc _=>lifted os started H enc)
theorem proved:Rows.MatrixTellsCardSaid:=
 Claim7.holds_tied_plain_at .later [] [.handle,.data,.data] true (true, "7b508cc1f8ab7d2856745cbd51bcc22d90ed0c50f55d16c0d4c975af93704cd1") true
  over (fun _ h=>by cases h) (by kernel_rfl) (fun _ h=>by cases h) matrixTells_row_tie rfl ⟨rfl,rfl⟩ (by kernel_rfl) rfl
  (fun f fn hf hfn=>by
   obtain rfl:f=5:=Option.some.inj ((show prog.funcNamed "haystack/haystacklaw14.MatrixTells" =some 5 by kernel_rfl).symm.trans hf) |>.symm
   obtain rfl:fn=Tryz.f5:=(Option.some.inj (func5.symm.trans hfn)).symm
   exact⟨by kernel_rfl,fun j t ht=>by
    rw[Tryz.params5]at ht;have hm:t∈[27,5,3]:=by simpa using Array.mem_of_getElem? ht
    have hall:([27,5,3].all fun u=>!prog.wantsStandIn u)=true:=by kernel_rfl
    exact(show prog.wantsStandIn t=false by simpa using List.all_eq_true.1 hall t hm)⟩)
  (by kernel_rfl)
end Go.Proofs.YtleegaihbgbcjabGreatDoor.matrixTells
namespace Go.Proofs.YtleegaihbgbcjabGreatDoor
theorem matrixTells_holds:Rows.MatrixTellsCardSaid:=matrixTells.proved
#print axioms matrixTells_holds
end Go.Proofs.YtleegaihbgbcjabGreatDoor
