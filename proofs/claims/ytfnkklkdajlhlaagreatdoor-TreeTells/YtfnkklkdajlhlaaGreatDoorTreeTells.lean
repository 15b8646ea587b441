/-
  TreeTells: what a tree of whatever rows tells is what the document says.
-/
import Derived.Test.YtfnkklkdajlhlaaGreatDoorE29
import Derived.Test.YtfnkklkdajlhlaaGreatDoorCards
import Derived.Test.YtfnkklkdajlhlaaGreatDoorTie
import Derived.ChangeOld
import Derived.LaidMore
import Derived.SevenTiedAt
set_option linter.unusedVariables false
set_option linter.unusedSimpArgs false
set_option maxRecDepth 100000
set_option maxHeartbeats 16000000
namespace Go.Proofs.YtfnkklkdajlhlaaGreatDoor.treeTells
open Go.ChangeShapes Go.WideShapes Go.ChangeAt Go.RowKit Num Bit
theorem walk(w:World)(GW:GV w)(lx:Option Addr)(cx:Nat)(x:TR)(Tx:TArg w lx cx x)(c:Int)(hc_:0≤c∧c<256)(i:Int)(hi_: -9223372036854775808≤i∧i≤9223372036854775807):
  Qq 6 #[.agg #[.int .i64 x.K,.int .i64 x.N,.slice lx x.av.length cx],.int .u8 c,.int .i64 i] w (.bool true):=by
 obtain⟨c,rfl⟩:=Int.eq_ofNat_of_zero_le hc_.1;have hc:c<256:=by omega
 have HT:Hid (tSm x→∀w0,Below w.heap.size w w0→TI w0 lx cx x):=fun h w0 hb=>(Tx.ti h.2.2 GW).keep hb;have HW:Hid (tSm x→∀w0,Below w.heap.size w w0→WH w0 lx cx x):=fun h w0 hb=>(HT.out h w0 hb).wh h.1 h.2.1
 have SM:Hid (∀w0,Below w.heap.size w w0→Calls Tryz.prog 18 #[.agg #[.int .i64 x.K,.int .i64 x.N,.slice lx x.av.length cx]] w0 fun e w'=>∃B,e=.returned (.bool B)∧(B=true→tSm x)∧Below w0.heap.size w0 w'):=fun w0 hb=>rsmall_x lx cx x w0 (Tx.keep hb) Tx.n
 have A1:Hid (tSm x→Qz w 12 #[.agg #[.int .i64 x.K,.int .i64 x.N,.slice lx x.av.length cx],.int .i64 i] (.tuple #[.int .u8 (taC x i:Nat),.int .i64 (taE x i)])):=fun h w0 hb=>access_t vcA vrA lx cx x i w0 (HT.out h w0 hb) hi_ (fun _ _=>trivial)
 have A2:Hid (tSm x→Qz w 19 #[.agg #[.int .i64 x.K,.int .i64 x.N,.slice lx x.av.length cx],.int .i64 i] (.tuple #[.int .u8 (taC x i:Nat),.int .i64 (taE x i)])):=fun h w0 hb=>raccess_x i (HW.out h w0 hb) hi_
 have R1:Hid (tSm x→Qz w 13 #[.agg #[.int .i64 x.K,.int .i64 x.N,.slice lx x.av.length cx],.int .u8 (c:Int),.int .i64 i] (.tuple #[.int .i64 (trN x c i),.int .i64 (trE x i)])):=fun h w0 hb=>rank_t vcA vrA lx cx x c i w0 (HT.out h w0 hb) hc hi_ (fun _ _=>trivial)
 have R2:Hid (tSm x→Qz w 20 #[.agg #[.int .i64 x.K,.int .i64 x.N,.slice lx x.av.length cx],.int .u8 (c:Int),.int .i64 i] (.tuple #[.int .i64 (trN x c i),.int .i64 (trE x i)])):=fun h w0 hb=>rrank_x c i (HW.out h w0 hb) hc hi_
 have S1:Hid (tSm x→Qz w 21 #[.agg #[.int .i64 x.K,.int .i64 x.N,.slice lx x.av.length cx],.int .u8 (c:Int),.int .i64 i] (.tuple #[.int .i64 (tsX x c i),.int .i64 (tsE x c i)])):=fun h w0 hb=>select_t vcA vrA lx cx x c i w0 (HT.out h w0 hb) hc hi_ (fun _ _=>trivial)
 have S2:Hid (tSm x→Qz w 22 #[.agg #[.int .i64 x.K,.int .i64 x.N,.slice lx x.av.length cx],.int .u8 (c:Int),.int .i64 i] (.tuple #[.int .i64 (tsX x c i),.int .i64 (tsE x c i)])):=fun h w0 hb=>rselect_x c i (HW.out h w0 hb) hc hi_
 have C1:Hid (tSm x→Qz w 23 #[.agg #[.int .i64 x.K,.int .i64 x.N,.slice lx x.av.length cx]] (.bool (tOk x))):=fun h w0 hb=>check_t vcA lx cx x w0 (HT.out h w0 hb) (fun _ _=>trivial)
 have C2:Hid (tSm x→Qz w 24 #[.agg #[.int .i64 x.K,.int .i64 x.N,.slice lx x.av.length cx]] (.bool (tOk x))):=fun h w0 hb=>rcheck_x (HW.out h w0 hb)
 have Z1:Hid (tSm x→Qz w 16 #[.agg #[.int .i64 x.K,.int .i64 x.N,.slice lx x.av.length cx]] (.int .i64 (tZ x))):=fun h w0 hb=>size_t vcA lx cx x w0 (HT.out h w0 hb) (fun _ _=>trivial)
 have Z2:Hid (tSm x→Qz w 17 #[.agg #[.int .i64 x.K,.int .i64 x.N,.slice lx x.av.length cx]] (.int .i64 (tZ x))):=fun h w0 hb=>rsize_g lx cx x w0 (HT.out h w0 hb) fun w1 h1=>rcheck_x (HW.out h w1 (bg hb h1))
 have T1:Hid (tSm x→∀w0,Below w.heap.size w w0→Calls Tryz.prog 25 #[.agg #[.int .i64 x.K,.int .i64 x.N,.slice lx x.av.length cx]] w0 fun e w'=>∃bo bc,e=.returned (.slice bo (tTx x).length bc)∧Bd w' bo (tTx x)∧Below w0.heap.size w0 w'):=fun h w0 hb=>by
  refine(text_t vcA vrA lx cx x w0 (HT.out h w0 hb) (fun _ _=>trivial)).mono ?_;rintro e w' ⟨bo,bc,rfl,g1,_,g2⟩;exact⟨bo,bc,rfl,g1,g2⟩
 have T2:Hid (tSm x→∀w0,Below w.heap.size w w0→Calls Tryz.prog 26 #[.agg #[.int .i64 x.K,.int .i64 x.N,.slice lx x.av.length cx]] w0 fun e w'=>∃bo bc,e=.returned (.slice bo (tTx x).length bc)∧Bd w' bo (tTx x)∧Below w0.heap.size w0 w'):=fun h w0 hb=>rtext_x (HW.out h w0 hb)
 have CV:Hid (∀(w0:World) ao cap,Bd w0 ao (tTx x)→(convert 22 9 (.slice ao (tTx x).length cap)).run Tryz.prog w0=.ok (.string (strOfNums (nums (tTx x)))) w0):=fun w0 ao cap h=>conv cap h
 have bx:=Cel.new w [.int .i64 x.K,.int .i64 x.N,.slice lx x.av.length cx] 26;have bw:=below_alloc w (.cells #[.int .i64 x.K,.int .i64 x.N,.slice lx x.av.length cx] 26);clear HT HW Tx hc_ hi_ hc;generalize tSm x=PP at *
 generalize tOk x=ok at *;generalize tZ x=Z at *;generalize strOfNums (nums (tTx x))=SS at *;generalize tTx x=t at *;generalize taC x i=ac at *;generalize taE x i=ae at *;generalize trN x c i=rn at *
 generalize trE x i=re at *;generalize tsX x c i=sx at *;generalize tsE x c i=se at *;generalize x.K=K at *;generalize x.N=N at *;generalize x.av.length=m at *;go_enter Tryz.func6,Tryz.ntmps6;go_wp2_with fail
 refine(SM.out _ bw).mono ?_;rintro e w1 ⟨B,rfl,hB,hb⟩;replace bx:=bx.kept hb;replace bw:=bg bw hb;clear hb SM;cases B with
 | false=>
  go_wp2_with fail;refine mr (heads_c _ (GW.kept (by first | assumption | exact hS.2.2.2.2 | exact hS.1.1.2 | exact Below.refl _ _))) fun w9 hb=>?_;replace bw:=bg bw hb;go_wp2;go_ret
  exact⟨rfl,bw⟩
 | true=>
  have hp:=hB rfl;clear hB;have y0:=bx.cell 0 rfl;have y1:=bx.cell 1 rfl;have y2:=bx.cell 2 rfl;go_wp2_with fail;refine mr (A1.out hp _ bw) fun w2 hb=>?_;replace bx:=bx.kept hb
  replace bw:=bg bw hb;clear hb A1 y0 y1 y2;have y0:=bx.cell 0 rfl;have y1:=bx.cell 1 rfl;have y2:=bx.cell 2 rfl;go_wp2_with fail;refine mr (A2.out hp _ bw) fun w3 hb=>?_
  replace bx:=bx.kept hb;replace bw:=bg bw hb;clear hb A2 y0 y1 y2;have y0:=bx.cell 0 rfl;have y1:=bx.cell 1 rfl;have y2:=bx.cell 2 rfl;go_wp2_with fail;refine mr (R1.out hp _ bw) fun w4 hb=>?_;replace bx:=bx.kept hb;replace bw:=bg bw hb;clear hb R1 y0 y1 y2;have y0:=bx.cell 0 rfl;have y1:=bx.cell 1 rfl;have y2:=bx.cell 2 rfl;go_wp2_with fail
  refine mr (R2.out hp _ bw) fun w5 hb=>?_;replace bx:=bx.kept hb;replace bw:=bg bw hb;clear hb R2 y0 y1 y2;have y0:=bx.cell 0 rfl;have y1:=bx.cell 1 rfl;have y2:=bx.cell 2 rfl
  go_wp2_with fail;refine mr (S1.out hp _ bw) fun w6 hb=>?_;replace bx:=bx.kept hb;replace bw:=bg bw hb;clear hb S1 y0 y1 y2;have y0:=bx.cell 0 rfl;have y1:=bx.cell 1 rfl
  have y2:=bx.cell 2 rfl;go_wp2_with fail;refine mr (S2.out hp _ bw) fun w8 hb=>?_;replace bx:=bx.kept hb;replace bw:=bg bw hb;clear hb S2 y0 y1 y2;go_wp2
  refine region_g [] (fun w'=>Cel w' w.heap.size [.int .i64 K,.int .i64 N,.slice lx m cx] 26∧Below w.heap.size w w') (by kernel_rfl) ?_
  have hS:(fun w'=>Cel w' w.heap.size [.int .i64 K,.int .i64 N,.slice lx m cx] 26∧Below w.heap.size w w') w8.drew:=⟨bx.drew,bw.drew⟩;clear bx bw;generalize w8.drew=V at *
  refine aF 0 hS rfl (fun w0 h0=>by have y0:=h0.1.cell 0 rfl;have y1:=h0.1.cell 1 rfl;have y2:=h0.1.cell 2 rfl;go_simp;try with_reducible rfl) ?_
  refine aF 2 hS rfl (fun w0 h0=>by have y0:=h0.1.cell 0 rfl;have y1:=h0.1.cell 1 rfl;have y2:=h0.1.cell 2 rfl;go_simp;try with_reducible rfl) ?_;refine aO 1 ?_;intro K hK;go_simp
  refine mr (C1.out hp _ hS.2) fun v1 hb=>?_;replace hS:=And.intro (hS.1.kept hb) (hS.2.trans (hb.mono hS.2.size));clear hb;refine hK.out _ _ (fun _=>hS) ?_;clear hK K
  try simp only[Act.put,yq0,yq1,yq2,yq3,yq4,yq5]
  refine aO 3 ?_;intro K hK;go_simp;refine mr (C2.out hp _ hS.2) fun v3 hb=>?_;replace hS:=And.intro (hS.1.kept hb) (hS.2.trans (hb.mono hS.2.size));clear hb;refine hK.out _ _ (fun _=>hS) ?_;clear hK K
  try simp only[Act.put,yq0,yq1,yq2,yq3,yq4,yq5]
  refine aK 4 hS ?_;refine aK 5 hS ?_;refine aF 6 hS rfl (fun w0 h0=>by have y0:=h0.1.cell 0 rfl;have y1:=h0.1.cell 1 rfl;have y2:=h0.1.cell 2 rfl;go_simp;try with_reducible rfl) ?_
  refine aF 8 hS rfl (fun w0 h0=>by have y0:=h0.1.cell 0 rfl;have y1:=h0.1.cell 1 rfl;have y2:=h0.1.cell 2 rfl;go_simp;try with_reducible rfl) ?_;refine aO 7 ?_;intro K hK;go_simp
  refine mr (Z1.out hp _ hS.2) fun v7 hb=>?_;replace hS:=And.intro (hS.1.kept hb) (hS.2.trans (hb.mono hS.2.size));clear hb;refine hK.out _ _ (fun _=>hS) ?_;clear hK K
  try simp only[Act.put,yq0,yq1,yq2,yq3,yq4,yq5]
  refine aO 9 ?_;intro K hK;go_simp;refine mr (Z2.out hp _ hS.2) fun v9 hb=>?_;replace hS:=And.intro (hS.1.kept hb) (hS.2.trans (hb.mono hS.2.size));clear hb;refine hK.out _ _ (fun _=>hS) ?_;clear hK K
  try simp only[Act.put,yq0,yq1,yq2,yq3,yq4,yq5]
  refine aK 10 hS ?_;refine aK 11 hS ?_;refine aK 12 hS ?_
  refine aF 13 hS rfl (fun w0 h0=>by have y0:=h0.1.cell 0 rfl;have y1:=h0.1.cell 1 rfl;have y2:=h0.1.cell 2 rfl;go_simp;try with_reducible rfl) ?_
  refine aF 16 hS rfl (fun w0 h0=>by have y0:=h0.1.cell 0 rfl;have y1:=h0.1.cell 1 rfl;have y2:=h0.1.cell 2 rfl;go_simp;try with_reducible rfl) ?_;refine aO 14 ?_;intro K hK;go_simp
  refine(T1.out hp _ hS.2).mono ?_;rintro e v14 ⟨bo,bc,rfl,hd,hb⟩;replace hS:=And.intro (hS.1.kept hb) (hS.2.trans (hb.mono hS.2.size));clear hb;refine hK.out _ _ (fun _=>hS) ?_;clear hK K
  try simp only[Act.put,yq0,yq1,yq2,yq3,yq4,yq5]
  refine AnyG.more (E:=fun w'=>Bd w' bo t) _ _ _ _ hS hd ?_;replace hS:=And.intro hS hd;clear hd;refine aF 15 hS rfl (fun w0 h0=>by have cv:=CV.out w0 bo bc h0.2;go_simp;try with_reducible rfl) ?_
  refine aO 17 ?_;intro K hK;go_simp;refine(T2.out hp _ hS.1.2).mono ?_;rintro e v17 ⟨b2,c2,rfl,hd,hb⟩;replace hS:=And.intro (And.intro (hS.1.1.kept hb) (hS.1.2.trans (hb.mono hS.1.2.size))) (hS.2.keep hb);clear hb
  refine hK.out _ _ (fun _=>hS) ?_;clear hK K;try simp only[Act.put,yq0,yq1,yq2,yq3,yq4,yq5]
  refine AnyG.more (E:=fun w'=>Bd w' b2 t) _ _ _ _ hS hd ?_;replace hS:=And.intro hS hd;clear hd;refine aF 18 hS rfl (fun w0 h0=>by have cv:=CV.out w0 b2 c2 h0.2;go_simp;try with_reducible rfl) ?_
  refine aK 19 hS ?_;refine aK 20 hS ?_;refine aK 21 hS ?_;refine aO 22 ?_;intro K hK;go_simp
  refine mr (heads_c _ (GW.kept (by first | assumption | exact hS.2.2.2.2 | exact hS.1.1.2 | exact Below.refl _ _))) fun v22 hb=>?_
  replace hS:=And.intro (And.intro (And.intro (hS.1.1.1.kept hb) (hS.1.1.2.trans (hb.mono hS.1.1.2.size))) (hS.1.2.keep hb)) (hS.2.keep hb);clear hb;refine hK.out _ _ (fun _=>hS) ?_;clear hK K
  try simp only[Act.put,yq0,yq1,yq2,yq3,yq4,yq5]
  refine aK 23 hS ?_;refine aO 24 ?_;intro K hK;go_simp;refine hK.out _ _ (fun _=>hS) ?_;clear hK K;try simp only[Act.put,yq0,yq1,yq2,yq3,yq4,yq5]
  refine AnyG.done (by kernel_rfl) ?_ _;go_wp2;go_ret;exact⟨rfl,hS.1.1.2⟩
theorem door_met(os:Os)(args:Array Value):laidMetH Tryz.prog [("errors.errorType",Rows.laid_errors_errorType),("haystack/rrr.ways",Rows.laid_haystack_rrr_ways),("haystack/rrr.widths",Rows.laid_haystack_rrr_widths)] ((World.doorLaid Tryz.prog 400 os).forCall (fun _ _=>0) ⟨#[],args,[]⟩).memory:=
 laidMetH_of_parts3 (fuel:=8) (laidMet_of_run' 8 (by kernel_rfl) (by kernel_rfl)) (by kernel_rfl) (by kernel_rfl)
theorem lifted(os:Os)(started:os.Started)(H:Type)(enc:TypeId×Value→H):
  ReturnsInHanded {} Tryz.checked os 6 .any (fun w args=>(Rows.treeTellsSpec.pre enc Tryz.prog Tryz.f6 [] false w args∧laidMetH Tryz.prog [("errors.errorType",Rows.laid_errors_errorType),("haystack/rrr.ways",Rows.laid_haystack_rrr_ways),("haystack/rrr.widths",Rows.laid_haystack_rrr_widths)] w)∧sizedMet enc Tryz.prog Tryz.f6 (OpenSpec.ofChange Rows.treeTellsSpec) false w args)
   (Rows.treeTellsSpec.post enc Tryz.prog Tryz.f6 false true false false):=by
 refine returnsInHanded_of_change_and (C:=Tryz.checked) (X:=fun w _=>laidMetH Tryz.prog [("errors.errorType",Rows.laid_errors_errorType),("haystack/rrr.ways",Rows.laid_haystack_rrr_ways),("haystack/rrr.widths",Rows.laid_haystack_rrr_widths)] w) (fun _ _ _ hh h=>h.of_heap hh) own started (by kernel_rfl) Tryz.func6
  (ChangeSpec.witness_shaped (enc:=enc) (C:=Tryz.checked) (os:=os) (X:=fun w _=>laidMetH Tryz.prog [("errors.errorType",Rows.laid_errors_errorType),("haystack/rrr.ways",Rows.laid_haystack_rrr_ways),("haystack/rrr.widths",Rows.laid_haystack_rrr_widths)] w) false (World.doorLaid Tryz.prog 400 os) #[.agg #[.int .i64 0,.int .i64 0,.slice none 0 0],.int .u8 0,.int .i64 0] 8 rfl (World.shaped_of_RefB (by kernel_rfl) (by kernel_rfl)) (by kernel_rfl) (by kernel_rfl) (by kernel_rfl) (door_met os _)) ?_
 intro W base args ds gs before hval0 hW _ _ hL _;have hval:∀(j:Nat) t v,Tryz.f6.params[j]?=some t→args[j]?=some v→Value.okWide Tryz.prog W .any base t v:=hval0;have hW':=hW
 obtain⟨p,q,hA0,hV,rfl,hfz,hnd⟩:=hW;have hA:DataW.TrodAll enc Tryz.prog W 0 (fun _=>true) true Tryz.f6.params.toList args.toList ds p:=hA0;rw[Tryz.params6]at hA hval
 obtain⟨v0,vs0,d0,ds0,p0,q0,hargs,rfl,rfl,h0,r0⟩:=trodAll_cons hA;obtain⟨v1,vs1,d1,ds1,p1,q1,rfl,rfl,rfl,h1,r1⟩:=trodAll_cons r0;obtain⟨v2,vs2,d2,ds2,p2,q2,rfl,rfl,rfl,h2,r2⟩:=trodAll_cons r1
 obtain⟨rfl,rfl,rfl⟩:=trodAll_nil r2;obtain rfl:args=#[v0,v1,v2]:=by cases args;simp_all
 obtain⟨rfl,rfl⟩:=trodVars_none hV;have k0:=h0;have lt0:∀x∈p0,x.block<W.heap.size:=by obtain⟨m,hm⟩:=k0;exact DataW.trod_lt m _ _ _ hm
 obtain⟨lx,cx,x,rfl,b01⟩:=open_tree (hval 0 26 v0 rfl rfl) h0;obtain⟨c,rfl,rfl,rfl,w1⟩:=open_int Tryz.underlying5 (hval 1 5 v1 rfl rfl) h1
 obtain⟨i,rfl,rfl,rfl,w2⟩:=open_int Tryz.underlying3 (hval 2 3 v2 rfl rfl) h2;clear hA0 hval0;refine(walk W (gv_of_laid hL) lx cx x b01 c (u8_wf _ w1) i (i64_wf _ w2)).mono fun e W' ⟨he,bel⟩=>?_;subst he
 exact⟨_,rfl,_,_,_,[],_,[],hW',trodAll_mk1 (shut_bool Tryz.underlying4 _),(trodAll_cons_mk (Below.trod laidOut (by kernel_rfl) (of_decide_eq_true (by kernel_rfl)) k0 bel lt0) (trodAll_cons_mk (shut_int Tryz.underlying5 w1) (trodAll_cons_mk (shut_int Tryz.underlying3 w2) trodAll_mk0))),rfl,bel.frame _,fun h=>by cases h⟩
theorem closed:joinedFacts Tryz.prog 6 Tryz.f6 Rows.treeTellsSpec Rows.treeTellsRow=true:=by
 unfold joinedFacts;repeat' (with_reducible apply and_tt);all_goals decide +kernel
theorem over:Rows.treeTellsRow.holds Tryz.pinned (OpenSpec.ofChange Rows.treeTellsSpec):=
 OpenClaim.holds_of_wide 6 Tryz.f6 rfl rfl rfl rfl rfl rfl rfl ⟨rfl,rfl,rfl,rfl,rfl⟩ rfl rfl rfl rfl rfl (by kernel_rfl) Tryz.func6 closed
  (of_decide_eq_true (by kernel_rfl)) (by unfold Func.isWrapper;first | (rw[if_pos (by decide +kernel)];kernel_rfl) | (rw[if_neg (by decide +kernel)];exact⟨rfl,rfl⟩))
  (fun os started H enc _=>lifted os started H enc)
theorem proved:Rows.TreeTellsCardSaid:=
 Claim7.holds_tied_plain_at .later [] [.handle,.data,.data] true (true, "682ab52273e9416ee50490cc01aab7b7bbe3c1ea5b76be4e26232a9cc66b42fb") true
  over (fun _ h=>by cases h) (by kernel_rfl) (fun _ h=>by cases h) treeTells_row_tie rfl ⟨rfl,rfl⟩ (by kernel_rfl) rfl
  (fun f fn hf hfn=>by
   obtain rfl:f=6:=Option.some.inj ((show Tryz.prog.funcNamed "haystack/haystacklaw12.TreeTells" =some 6 by kernel_rfl).symm.trans hf) |>.symm
   obtain rfl:fn=Tryz.f6:=(Option.some.inj (Tryz.func6.symm.trans hfn)).symm
   exact⟨by kernel_rfl,fun j t ht=>by
    rw[Tryz.params6]at ht;have hm:t∈[26,5,3]:=by simpa using Array.mem_of_getElem? ht
    have hall:([26,5,3].all fun u=>!Tryz.prog.wantsStandIn u)=true:=by kernel_rfl
    exact(show Tryz.prog.wantsStandIn t=false by simpa using List.all_eq_true.1 hall t hm)⟩)
  (by kernel_rfl)
end Go.Proofs.YtfnkklkdajlhlaaGreatDoor.treeTells
namespace Go.Proofs.YtfnkklkdajlhlaaGreatDoor
theorem treeTells_holds:Rows.TreeTellsCardSaid:=treeTells.proved
#print axioms treeTells_holds
end Go.Proofs.YtfnkklkdajlhlaaGreatDoor
