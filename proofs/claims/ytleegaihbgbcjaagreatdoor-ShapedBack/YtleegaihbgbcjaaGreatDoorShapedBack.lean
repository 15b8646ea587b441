/-
  ShapedBack: what is built is the text, and counts and places of symbols go there and back.
-/
import Derived.Test.YtleegaihbgbcjaaGreatDoorK32
import Derived.Test.YtleegaihbgbcjaaGreatDoorCards
import Derived.Test.YtleegaihbgbcjaaGreatDoorTie
import Derived.LaidMore
set_option linter.unusedVariables false
set_option linter.unusedSimpArgs false
set_option maxRecDepth 100000
set_option maxHeartbeats 16000000
open Go.Proofs.Tryz
namespace Go.Proofs.YtleegaihbgbcjaaGreatDoor.shapedBack
open Go.ChangeShapes Go.WideShapes Go.ChangeAt Go.RowKit Num Bit
theorem walk(w:World)(G:GV w)(kd:Int)(hkd_: -9223372036854775808<=kd/\kd<=9223372036854775807)(ot:Option Addr)(t:List Nat)(ct:Nat)(Xt:Bd w ot t)(Ft:lu t)(Ct:t.length<=ct)(c:Int)(hc_:0<=c/\c<256)(k:Int)(hk_: -9223372036854775808<=k/\k<=9223372036854775807):
  Qq 7 #[.int .i64 kd,.slice ot t.length ct,.int .u8 c,.int .i64 k] w (.bool true):=by
 have HH:Hid (Qz w 9 #[] (.bool true)):=fun w0 h=>FO w0 (G.keep h);have HG:=ac G;clear G;by_cases hL:600<t.length
 .have hL2:(600:Int)<(t.length:Int):=by omega
  go_enter func7,ntmps7;go_wp2_with fail;refine mr (HH.out _ (Below.refl _ _)) fun w9 hb=>?_;go_wp2;go_ret;exact⟨rfl,hb⟩
 have hL2:¬(600:Int)<(t.length:Int):=by omega
 by_cases k0:kd<1
 .clear hL;go_enter func7,ntmps7;go_wp2_with fail;refine mr (HH.out _ (Below.refl _ _)) fun w9 hb=>?_;go_wp2;go_ret;exact⟨rfl,hb⟩
 by_cases k1:3<kd
 .have k2:(1:Int)<=kd:=by omega
  clear hL;go_enter func7,ntmps7;go_wp2_with fail;refine mr (HH.out _ (Below.refl _ _)) fun w9 hb=>?_;go_wp2;go_ret;exact⟨rfl,hb⟩
 have hB:=Ft.byt;obtain⟨c,rfl⟩:=Int.eq_ofNat_of_zero_le hc_.1;have hc:c<256:=by omega
 obtain⟨m,SA,HXP⟩:=rZ kd t ⟨by omega,by omega⟩ (by omega) hB;have HK:=ac HXP.keep
 have H1:Hid (∀w0,Below w.heap.size w w0->Calls prog 10 #[.int .i64 kd,.slice ot t.length ct] w0 fun e w'=>∃lo lc no nc,e=.returned (.tuple #[.agg #[.int .i64 kd,.int .i64 (t.length:Int),.slice lo 256 lc,.slice no m nc],.int .i64 0])/\SA w' lo lc no nc/\Below w0.heap.size w0 w'):=fun w0 h=>HXP.build w0 ot ct (Xt.keep h) (HG.out.keep h)
 obtain⟨M,hM⟩:∃M,Hid (M=Sh.cp (fun d=>decide (d=c)) t t.length):=⟨_,rfl⟩;have hMn:M<=t.length:=by rw[hM.out];exact Hj _ _ _
 have HC:Hid (∀w0 lo lc no nc,SA w0 lo lc no nc->Qq 24 #[.agg #[.int .i64 kd,.int .i64 (t.length:Int),.slice lo 256 lc,.slice no m nc]] w0 (.bool true)):=HXP.check
 have HT:Hid (∀w0 lo lc no nc,SA w0 lo lc no nc->Calls prog 26 #[.agg #[.int .i64 kd,.int .i64 (t.length:Int),.slice lo 256 lc,.slice no m nc]] w0 fun e w'=>∃bo bc,e=.returned (.slice bo t.length bc)/\(convert 22 9 (.slice bo t.length bc)).run prog w'=.ok (.string (strOfNums (gZ t))) w'/\Below w0.heap.size w0 w'):=HXP.text
 have CV:Hid (∀w0,Below w.heap.size w w0->(convert 22 9 (.slice ot t.length ct)).run prog w0=.ok (.string (strOfNums (gZ t))) w0):=fun w0 hb=>conv ct (Xt.keep hb)
 have HR:Hid (∀j:Nat,j<=t.length->∀w0 lo lc no nc,SA w0 lo lc no nc->Qq 14 #[.agg #[.int .i64 kd,.int .i64 (t.length:Int),.slice lo 256 lc,.slice no m nc],.int .u8 c,.int .i64 (j:Int)] w0 (.tuple #[.int .i64 (Sh.cp (fun d=>decide (d=c)) t j:Nat),.int .i64 0])):=fun j hj w0 lo lc no nc h=>by
  have:=HXP.rank c j hc ⟨by omega,by omega⟩ w0 lo lc no nc h;rw[(s9 c hj).1,(s9 c hj).2]at this;exact this
 have R1:=ac (HR.out t.length (Nat.le_refl _));rw[<-hM.out]at R1;have k2:(1:Int)<=kd:=by omega
 have HXh:=ac HXP;have hBk:=ac hk_;clear HXP Xt Ft hB hL hkd_ hk_;obtain⟨S,hS_⟩:∃S,Hid (S=strOfNums (gZ t)):=⟨_,rfl⟩;rw[<-hS_.out]at HT CV;clear hS_;go_enter func7,ntmps7;go_wp2_with fail
 refine(H1.out _ (Below.refl _ _)).mono ?_;rintro e w1 ⟨lo,lc,no,nc,rfl,hP0,hb⟩;have hw:=ac hb;have b1:=below_alloc w1 (.cells [.int .i64 kd,.int .i64 (t.length:Int),.slice lo 256 lc,.slice no m nc].toArray 27)
 have hX:=ac (aa.new w1 [.int .i64 kd,.int .i64 (t.length:Int),.slice lo 256 lc,.slice no m nc] 27);have hP:=ac (HK.out _ _ _ _ _ _ hP0 b1);replace hw:=ac (bg hw.out b1);clear H1 hb hP0 b1
 go_wp2;refine aB [] (fun w'=>aa w' w1.heap.size [.int .i64 kd,.int .i64 (t.length:Int),.slice lo 256 lc,.slice no m nc] 27/\SA w' lo lc no nc/\Below w.heap.size w w') (by kernel_rfl) ?_
 have hS:(fun w'=>aa w' w1.heap.size [.int .i64 kd,.int .i64 (t.length:Int),.slice lo 256 lc,.slice no m nc] 27/\SA w' lo lc no nc/\Below w.heap.size w w') (w1.alloc (.cells [.int .i64 kd,.int .i64 (t.length:Int),.slice lo 256 lc,.slice no m nc].toArray 27)).drew:=⟨hX.out.drew,HK.out _ _ _ _ _ _ hP.out ((Below.refl _ _).drew),hw.out.drew⟩
 clear hX hP hw;generalize (w1.alloc (.cells [.int .i64 kd,.int .i64 (t.length:Int),.slice lo 256 lc,.slice no m nc].toArray 27)).drew=V at *;refine aK 0 hS ?_;refine aK 1 hS ?_;refine aK 2 hS ?_
 refine aF 3 hS rfl (fun w0 h0=>by have y0:=h0.1.cell 0 rfl;have y1:=h0.1.cell 1 rfl;have y2:=h0.1.cell 2 rfl;have y3:=h0.1.cell 3 rfl;go_simp;try with_reducible rfl) ?_;refine aO 4 ?_;intro K hK;go_simp
 refine mr (HC.out _ _ _ _ _ hS.2.1) fun w2 hb=>?_;have hS2:=And.intro (hS.1.kept hb) (And.intro (HK.out _ _ _ _ _ _ hS.2.1 hb) (hS.2.2.trans (hb.mono hS.2.2.size)));clear hb hS;refine hK.out _ _ (fun _=>hS2) ?_
 clear hK K;try simp only[Act.put,ak,aj,ai,ae,ah,ag]
 refine aK 5 hS2 ?_;refine aK 6 hS2 ?_;refine aK 7 hS2 ?_
 refine aF 8 hS2 rfl (fun w0 h0=>by have y0:=h0.1.cell 0 rfl;have y1:=h0.1.cell 1 rfl;have y2:=h0.1.cell 2 rfl;have y3:=h0.1.cell 3 rfl;go_simp;try with_reducible rfl) ?_;refine aK 11 hS2 ?_
 refine aF 12 hS2 rfl (fun w0 h0=>by have cv:=CV.out w0 h0.2.2;go_simp;try with_reducible rfl) ?_;refine aO 9 ?_;intro K hK;go_simp;refine(HT.out _ _ _ _ _ hS2.2.1).mono ?_;rintro e w3 ⟨bo,bc,rfl,hcv,hb⟩
 have hS3:=And.intro (hS2.1.kept hb) (And.intro (HK.out _ _ _ _ _ _ hS2.2.1 hb) (hS2.2.2.trans (hb.mono hS2.2.2.size)));clear hb hS2;refine hK.out _ _ (fun _=>hS3) ?_;clear hK K
 try simp only[Act.put,ak,aj,ai,ae,ah,ag]
 refine aO 10 ?_;intro K hK;go_simp;refine hK.out _ _ (fun _=>hS3) ?_;clear hK K;try simp only[Act.put,ak,aj,ai,ae,ah,ag]
 refine aK 13 hS3 ?_;refine aK 14 hS3 ?_;refine aK 15 hS3 ?_;refine aK 16 hS3 ?_;refine aq.done (by kernel_rfl) ?_ _;obtain⟨hX0,hP0,hw0⟩:=hS3;have hX:=ac hX0;have hP:=ac hP0;have hw:=ac hw0
 clear hX0 hP0 hw0 hcv CV HT HC;have y0:=hX.out.cell 0 rfl;have y1:=hX.out.cell 1 rfl;have y2:=hX.out.cell 2 rfl;have y3:=hX.out.cell 3 rfl;go_wp2_with fail;refine mr (R1.out _ _ _ _ _ hP.out) fun w4 hb=>?_
 replace hP:=ac (HK.out _ _ _ _ _ _ hP.out hb);replace hX:=ac (hX.out.kept hb);replace hw:=ac (bg hw.out hb);clear hb R1 y0 y1 y2 y3;by_cases hk:0<=k/\k<(M:Int)
 .obtain⟨k,rfl⟩:=Int.eq_ofNat_of_zero_le hk.1;obtain⟨i,hi',g1,g2,g3,g4⟩:=yS (t:=t) (c:=c) (K:=k) (by rw[<-hM.out];omega)
  have HS:Hid (∀w0 lo lc no nc,SA w0 lo lc no nc->Qq 22 #[.agg #[.int .i64 kd,.int .i64 (t.length:Int),.slice lo 256 lc,.slice no m nc],.int .u8 c,.int .i64 k] w0 (.tuple #[.int .i64 i,.int .i64 0])):=fun w0 lo lc no nc h=>by
   have:=HXh.out.select c k hc hBk.out w0 lo lc no nc h;rw[g3,g4]at this;exact this
  have R2:=ac (HR.out i (by omega));rw[g2]at R2
  have HA:Hid (∀w0 lo lc no nc,SA w0 lo lc no nc->Qq 13 #[.agg #[.int .i64 kd,.int .i64 (t.length:Int),.slice lo 256 lc,.slice no m nc],.int .i64 i] w0 (.tuple #[.int .u8 c,.int .i64 0])):=fun w0 lo lc no nc h=>by
   have:=HXh.out.access i ⟨by omega,by omega⟩ w0 lo lc no nc h;rw[(tt hi').1,(tt hi').2,g1]at this;exact this
  have hk3:(k:Int)<(M:Int):=hk.2;have dk:decide (k<M)=true:=decide_eq_true (by omega);clear HXh hM HR hk g1 g2 g3 g4 hBk;have y0:=hX.out.cell 0 rfl;have y1:=hX.out.cell 1 rfl;have y2:=hX.out.cell 2 rfl
  have y3:=hX.out.cell 3 rfl;go_wp2_with fail;refine mr (HS.out _ _ _ _ _ hP.out) fun w5 hb=>?_;replace hP:=ac (HK.out _ _ _ _ _ _ hP.out hb);replace hX:=ac (hX.out.kept hb)
  replace hw:=ac (bg hw.out hb);clear hb HS y0 y1 y2 y3;have y0:=hX.out.cell 0 rfl;have y1:=hX.out.cell 1 rfl;have y2:=hX.out.cell 2 rfl;have y3:=hX.out.cell 3 rfl;go_wp2_with fail
  refine mr (R2.out _ _ _ _ _ hP.out) fun w6 hb=>?_;replace hP:=ac (HK.out _ _ _ _ _ _ hP.out hb);replace hX:=ac (hX.out.kept hb);replace hw:=ac (bg hw.out hb)
  clear hb R2 y0 y1 y2 y3;have y0:=hX.out.cell 0 rfl;have y1:=hX.out.cell 1 rfl;have y2:=hX.out.cell 2 rfl;have y3:=hX.out.cell 3 rfl;go_wp2_with fail;refine mr (HA.out _ _ _ _ _ hP.out) fun w7 hb=>?_
  replace hw:=ac (bg hw.out hb);clear hb HA y0 y1 y2 y3;clear hP hX;go_wp2_with fail;refine mr (HH.out _ hw.out) fun w9 hb=>?_;replace hw:=ac (bg hw.out hb);go_wp2
  go_ret;exact⟨rfl,hw.out⟩
 .have HS:Hid (∀w0 lo lc no nc,SA w0 lo lc no nc->Qq 22 #[.agg #[.int .i64 kd,.int .i64 (t.length:Int),.slice lo 256 lc,.slice no m nc],.int .u8 c,.int .i64 k] w0 (.tuple #[.int .i64 0,.int .i64 3])):=fun w0 lo lc no nc h=>by
   have:=HXh.out.select c k hc hBk.out w0 lo lc no nc h;have q:=yR (t:=t) (c:=c) (K:=k) (by rw[<-hM.out];exact hk);rw[q.1,q.2]at this;exact this
  clear HXh hM HR hBk;have y0:=hX.out.cell 0 rfl;have y1:=hX.out.cell 1 rfl;have y2:=hX.out.cell 2 rfl;have y3:=hX.out.cell 3 rfl;go_wp2_with fail;refine mr (HS.out _ _ _ _ _ hP.out) fun w5 hb=>?_
  replace hP:=ac (HK.out _ _ _ _ _ _ hP.out hb);replace hX:=ac (hX.out.kept hb);replace hw:=ac (bg hw.out hb);clear hb HS y0 y1 y2 y3;clear hP hX;by_cases kk:k<0
  .have kk2:¬(0:Int)<=k:=by omega
   clear hk;go_wp2_with fail;refine mr (HH.out _ hw.out) fun w9 hb=>?_;replace hw:=ac (bg hw.out hb);go_wp2;go_ret;exact⟨rfl,hw.out⟩
  .have kk2:(0:Int)<=k:=by omega
   have kk3:¬k<(M:Int):=by omega
   clear hk;go_wp2_with fail;refine mr (HH.out _ hw.out) fun w9 hb=>?_;replace hw:=ac (bg hw.out hb);go_wp2;go_ret;exact⟨rfl,hw.out⟩
theorem door_met(os:Os)(args:Array Value):laidMetH prog [("errors.errorType",Rows.laid_errors_errorType),("haystack/rrr.ways",Rows.laid_haystack_rrr_ways),("haystack/rrr.widths",Rows.laid_haystack_rrr_widths)] ((World.doorLaid prog 400 os).forCall (fun _ _=>0) ⟨#[],args,[]⟩).memory:=
 laidMetH_of_parts3 (fuel:=8) (laidMet_of_run' 8 (by kernel_rfl) (by kernel_rfl)) (by kernel_rfl) (by kernel_rfl)
theorem lifted(os:Os)(started:os.Started)(H:Type)(enc:TypeId×Value->H):
  ReturnsInHanded {} Tryz.checked os 7 .any (fun w args=>(Rows.shapedBackSpec.pre enc prog Tryz.f7 [] false w args/\laidMetH prog [("errors.errorType",Rows.laid_errors_errorType),("haystack/rrr.ways",Rows.laid_haystack_rrr_ways),("haystack/rrr.widths",Rows.laid_haystack_rrr_widths)] w)/\sizedMet enc prog Tryz.f7 (OpenSpec.ofChange Rows.shapedBackSpec) false w args)
   (Rows.shapedBackSpec.post enc prog Tryz.f7 false true false false):=by
 refine returnsInHanded_of_change_and (C:=Tryz.checked) (X:=fun w _=>laidMetH prog [("errors.errorType",Rows.laid_errors_errorType),("haystack/rrr.ways",Rows.laid_haystack_rrr_ways),("haystack/rrr.widths",Rows.laid_haystack_rrr_widths)] w) (fun _ _ _ hh h=>h.of_heap hh) own started (by kernel_rfl) func7
  (ChangeSpec.witness_shaped (enc:=enc) (C:=Tryz.checked) (os:=os) (X:=fun w _=>laidMetH prog [("errors.errorType",Rows.laid_errors_errorType),("haystack/rrr.ways",Rows.laid_haystack_rrr_ways),("haystack/rrr.widths",Rows.laid_haystack_rrr_widths)] w) false (World.doorLaid prog 400 os) #[.int .i64 0,.slice none 0 0,.int .u8 0,.int .i64 0] 8 rfl (World.shaped_of_RefB (by kernel_rfl) (by kernel_rfl)) (by kernel_rfl) (by kernel_rfl) (by kernel_rfl) (door_met os _)) ?_
 intro W base args ds gs before hval0 hW _ _ hL _;have hval:∀(j:Nat) t v,Tryz.f7.params[j]?=some t->args[j]?=some v->Value.okWide prog W .any base t v:=hval0;have hW':=hW
 obtain⟨p,q,hA0,hV,rfl,hfz,hnd⟩:=hW;have hA:DataW.TrodAll enc prog W 0 (fun _=>true) true Tryz.f7.params.toList args.toList ds p:=hA0;rw[Tryz.params7]at hA hval
 obtain⟨v0,vs0,d0,ds0,p0,q0,hargs,rfl,rfl,h0,r0⟩:=trodAll_cons hA;obtain⟨v1,vs1,d1,ds1,p1,q1,rfl,rfl,rfl,h1,r1⟩:=trodAll_cons r0;obtain⟨v2,vs2,d2,ds2,p2,q2,rfl,rfl,rfl,h2,r2⟩:=trodAll_cons r1
 obtain⟨v3,vs3,d3,ds3,p3,q3,rfl,rfl,rfl,h3,r3⟩:=trodAll_cons r2;obtain⟨rfl,rfl,rfl⟩:=trodAll_nil r3;obtain rfl:args=#[v0,v1,v2,v3]:=by cases args;simp_all
 obtain⟨rfl,rfl⟩:=trodVars_none hV;obtain⟨kd,rfl,rfl,rfl,w0⟩:=open_int underlying3 (hval 0 3 v0 rfl rfl) h0;have k1:=h1
 have lt1:∀x∈p1,x.block<W.heap.size:=by obtain⟨m,hm⟩:=k1;exact DataW.trod_lt m _ _ _ hm
 obtain⟨ot,t,ct,rfl,b11,b12,b13⟩:=Cv (hval 1 22 v1 rfl rfl) h1;obtain⟨c,rfl,rfl,rfl,w2⟩:=open_int underlying5 (hval 2 5 v2 rfl rfl) h2
 obtain⟨k,rfl,rfl,rfl,w3⟩:=open_int underlying3 (hval 3 3 v3 rfl rfl) h3;clear hA0 hval0;refine(walk W (FP hL) kd (vW _ w0) ot t ct b11 b12 b13 c (sB _ w2) k (vW _ w3)).mono fun e W' ⟨he,bel⟩=>?_
 subst he
 exact⟨_,rfl,_,_,_,[],_,[],hW',trodAll_mk1 (shut_bool underlying4 _),(trodAll_cons_mk (shut_int underlying3 w0) (trodAll_cons_mk (Below.trod Ey (by kernel_rfl) (of_decide_eq_true (by kernel_rfl)) k1 bel lt1) (trodAll_cons_mk (shut_int underlying5 w2) (trodAll_cons_mk (shut_int underlying3 w3) trodAll_mk0)))),rfl,bel.frame _,fun h=>by cases h⟩
theorem closed:joinedFacts prog 7 Tryz.f7 Rows.shapedBackSpec Rows.shapedBackRow=true:=by
 unfold joinedFacts;repeat' (with_reducible apply JL);all_goals decide +kernel
theorem over:Rows.shapedBackRow.holds Tryz.pinned (OpenSpec.ofChange Rows.shapedBackSpec):=
 OpenClaim.holds_of_wide 7 Tryz.f7 rfl rfl rfl rfl rfl rfl rfl ⟨rfl,rfl,rfl,rfl,rfl⟩ rfl rfl rfl rfl rfl (by kernel_rfl) func7 closed
  (of_decide_eq_true (by kernel_rfl)) (by unfold Func.isWrapper;first | (rw[if_pos (by decide +kernel)];kernel_rfl) | (rw[if_neg (by decide +kernel)];exact⟨rfl,rfl⟩))
  (fun os started H enc _=>lifted os started H enc)
theorem proved:Rows.ShapedBackCardSaid:=
 Claim7.holds_tied_plain_at .later [] [.handle,.data,.data] true (true, "7dc86c0d37a791c5e197edebda7a118415b0d18b1a23dc2c250974a41f2107e1") true
  over (fun _ h=>by cases h) (by kernel_rfl) (fun _ h=>by cases h) shapedBack_row_tie rfl ⟨rfl,rfl⟩ (by kernel_rfl) rfl
  (fun f fn hf hfn=>by
   obtain rfl:f=7:=Option.some.inj ((show prog.funcNamed "haystack/haystacklaw13.ShapedBack" =some 7 by kernel_rfl).symm.trans hf) |>.symm
   obtain rfl:fn=Tryz.f7:=(Option.some.inj (func7.symm.trans hfn)).symm
   exact⟨by kernel_rfl,fun j t ht=>by
    rw[Tryz.params7]at ht;have hm:t∈[3,22,5,3]:=by simpa using Array.mem_of_getElem? ht
    have hall:([3,22,5,3].all fun u=>!prog.wantsStandIn u)=true:=by kernel_rfl
    exact(show prog.wantsStandIn t=false by simpa using List.all_eq_true.1 hall t hm)⟩)
  (by kernel_rfl)
end Go.Proofs.YtleegaihbgbcjaaGreatDoor.shapedBack
namespace Go.Proofs.YtleegaihbgbcjaaGreatDoor
theorem shapedBack_holds:Rows.ShapedBackCardSaid:=shapedBack.proved
#print axioms shapedBack_holds
end Go.Proofs.YtleegaihbgbcjaaGreatDoor
