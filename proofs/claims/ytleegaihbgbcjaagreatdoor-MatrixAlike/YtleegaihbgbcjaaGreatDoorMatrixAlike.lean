/-
  MatrixAlike: a matrix answers as the plain text does, whichever the kinds of its rows.
-/
import Derived.Test.YtleegaihbgbcjaaGreatDoorA25
import Derived.Test.YtleegaihbgbcjaaGreatDoorCards
import Derived.Test.YtleegaihbgbcjaaGreatDoorTie
import Derived.ChangeOld
import Derived.LaidMore
import Derived.SevenTiedAt
set_option linter.unusedVariables false
set_option linter.unusedSimpArgs false
set_option maxRecDepth 100000
set_option maxHeartbeats 16000000
namespace Go.Proofs.YtleegaihbgbcjaaGreatDoor.matrixAlike
open Go.ChangeShapes Go.WideShapes Go.ChangeAt Go.RowKit Num Bit
theorem walk(w:World)(G:GV w)(ka:Int)(hka_: -9223372036854775808≤ka∧ka≤9223372036854775807)(kb:Int)(hkb_: -9223372036854775808≤kb∧kb≤9223372036854775807)(ot:Option Addr)(t:List Nat)(ct:Nat)(Xt:Bd w ot t)(Ft:Bytes t)(Ct:t.length≤ct)(i:Int)(hi_: -9223372036854775808≤i∧i≤9223372036854775807):
  Calls Tryz.prog 8 #[.int .i64 ka,.int .i64 kb,.slice ot t.length ct,.int .i64 i] w fun e w'=>e=.returned (.bool true)∧Below w.heap.size w w':=by
 have HH:Hid (∀w0,Below w.heap.size w w0→Calls Tryz.prog 28 #[] w0 fun e w'=>e=.returned (.bool true)∧Below w0.heap.size w0 w'):=fun w0 h=>heads_c w0 (G.keep h);have HG:=hide G;clear G
 by_cases hL:600<t.length
 ·have hL2:(600:Int)<(t.length:Int):=by omega
  go_enter Tryz.func8,Tryz.ntmps8;go_wp2_with fail;refine(HH.out _ (Below.refl _ _)).mono ?_;rintro e w9 ⟨rfl,hb⟩;go_wp2;go_ret;exact⟨rfl,hb⟩
 have hL2:¬(600:Int)<(t.length:Int):=by omega
 by_cases a0:ka<1
 ·clear hL;go_enter Tryz.func8,Tryz.ntmps8;go_wp2_with fail;refine(HH.out _ (Below.refl _ _)).mono ?_;rintro e w9 ⟨rfl,hb⟩;go_wp2;go_ret;exact⟨rfl,hb⟩
 have a0':(1:Int)≤ka:=by omega
 by_cases a1:3<ka
 ·clear hL;go_enter Tryz.func8,Tryz.ntmps8;go_wp2_with fail;refine(HH.out _ (Below.refl _ _)).mono ?_;rintro e w9 ⟨rfl,hb⟩;go_wp2;go_ret;exact⟨rfl,hb⟩
 by_cases b0:kb<1
 ·have a1':ka≤3:=by omega
  clear hL;go_enter Tryz.func8,Tryz.ntmps8;go_wp2_with fail;refine(HH.out _ (Below.refl _ _)).mono ?_;rintro e w9 ⟨rfl,hb⟩;go_wp2;go_ret;exact⟨rfl,hb⟩
 have b0':(1:Int)≤kb:=by omega
 by_cases b1:3<kb
 ·have a1':ka≤3:=by omega
  clear hL;go_enter Tryz.func8,Tryz.ntmps8;go_wp2_with fail;refine(HH.out _ (Below.refl _ _)).mono ?_;rintro e w9 ⟨rfl,hb⟩;go_wp2;go_ret;exact⟨rfl,hb⟩
 have a1':ka≤3:=by omega
 have b1':kb≤3:=by omega
 by_cases i0:i<0
 ·clear hL;go_enter Tryz.func8,Tryz.ntmps8;go_wp2_with fail;refine(HH.out _ (Below.refl _ _)).mono ?_;rintro e w9 ⟨rfl,hb⟩;go_wp2;go_ret;exact⟨rfl,hb⟩
 have i0':(0:Int)≤i:=by omega
 by_cases i1:(t.length:Int)≤i
 ·have i2:¬i<(t.length:Int):=by omega
  clear hL;go_enter Tryz.func8,Tryz.ntmps8;go_wp2_with fail;refine(HH.out _ (Below.refl _ _)).mono ?_;rintro e w9 ⟨rfl,hb⟩;go_wp2;go_ret;exact⟨rfl,hb⟩
 obtain⟨i,rfl⟩:=Int.eq_ofNat_of_zero_le i0';have hin:i<t.length:=by omega
 have hB:=Ft.byt;obtain⟨m,SA,HXP⟩:=x_mx ka t ⟨by omega,by omega⟩ (by omega) hB;have HK:=hide HXP.keep
 have H1:Hid (∀w0,Below w.heap.size w w0→Calls Tryz.prog 29 #[.int .i64 ka,.slice ot t.length ct] w0 fun e w'=>∃lo lc no nc,e=.returned (.tuple #[.agg #[.int .i64 ka,.int .i64 (t.length:Int),.slice lo 8 lc,.slice no 8 nc],.int .i64 0])∧SA w' lo lc no nc∧Below w0.heap.size w0 w'):=fun w0 h=>HXP.build w0 ot ct (Xt.keep h) (HG.out.keep h)
 obtain⟨m2,SA2,HXP2⟩:=x_mx kb t ⟨by omega,by omega⟩ (by omega) hB;have HK2:=hide HXP2.keep
 have H12:Hid (∀w0,Below w.heap.size w w0→Calls Tryz.prog 29 #[.int .i64 kb,.slice ot t.length ct] w0 fun e w'=>∃lo lc no nc,e=.returned (.tuple #[.agg #[.int .i64 kb,.int .i64 (t.length:Int),.slice lo 8 lc,.slice no 8 nc],.int .i64 0])∧SA2 w' lo lc no nc∧Below w0.heap.size w0 w'):=fun w0 h=>HXP2.build w0 ot ct (Xt.keep h) (HG.out.keep h)
 obtain⟨D,hD⟩:∃D,Hid (D=gt t i):=⟨_,rfl⟩;have hD2:D<256:=by rw[hD.out];exact hB i
 obtain⟨M,hM⟩:∃M,Hid (M=Sh.cp (fun d=>decide (d=D)) t i):=⟨_,rfl⟩;have hMn:M≤i:=by rw[hM.out];exact cp_le' _ _ _
 have HA1:Hid (∀w0 lo lc no nc,SA w0 lo lc no nc→Calls Tryz.prog 30 #[.agg #[.int .i64 ka,.int .i64 (t.length:Int),.slice lo 8 lc,.slice no 8 nc],.int .i64 (i:Int)] w0 fun e w'=>e=.returned (.tuple #[.int .u8 (D:Nat),.int .i64 0])∧Below w0.heap.size w0 w'):=fun w0 lo lc no nc h=>by
  have:=HXP.access i hi_ w0 lo lc no nc h;rw[(sa_in hin).1,(sa_in hin).2,←hD.out]at this;exact this
 have HA2:Hid (∀w0 lo lc no nc,SA2 w0 lo lc no nc→Calls Tryz.prog 30 #[.agg #[.int .i64 kb,.int .i64 (t.length:Int),.slice lo 8 lc,.slice no 8 nc],.int .i64 (i:Int)] w0 fun e w'=>e=.returned (.tuple #[.int .u8 (D:Nat),.int .i64 0])∧Below w0.heap.size w0 w'):=fun w0 lo lc no nc h=>by
  have:=HXP2.access i hi_ w0 lo lc no nc h;rw[(sa_in hin).1,(sa_in hin).2,←hD.out]at this;exact this
 have HR1:Hid (∀w0 lo lc no nc,SA w0 lo lc no nc→Calls Tryz.prog 31 #[.agg #[.int .i64 ka,.int .i64 (t.length:Int),.slice lo 8 lc,.slice no 8 nc],.int .u8 (D:Int),.int .i64 (i:Int)] w0 fun e w'=>e=.returned (.tuple #[.int .i64 (M:Nat),.int .i64 0])∧Below w0.heap.size w0 w'):=fun w0 lo lc no nc h=>by
  have:=HXP.rank D i hD2 hi_ w0 lo lc no nc h;rw[(sr_in D (Nat.le_of_lt hin)).1,(sr_in D (Nat.le_of_lt hin)).2,←hM.out]at this;exact this
 have HR2:Hid (∀w0 lo lc no nc,SA2 w0 lo lc no nc→Calls Tryz.prog 31 #[.agg #[.int .i64 kb,.int .i64 (t.length:Int),.slice lo 8 lc,.slice no 8 nc],.int .u8 (D:Int),.int .i64 (i:Int)] w0 fun e w'=>e=.returned (.tuple #[.int .i64 (M:Nat),.int .i64 0])∧Below w0.heap.size w0 w'):=fun w0 lo lc no nc h=>by
  have:=HXP2.rank D i hD2 hi_ w0 lo lc no nc h;rw[(sr_in D (Nat.le_of_lt hin)).1,(sr_in D (Nat.le_of_lt hin)).2,←hM.out]at this;exact this
 have HS1:Hid (∀w0 lo lc no nc,SA w0 lo lc no nc→Calls Tryz.prog 32 #[.agg #[.int .i64 ka,.int .i64 (t.length:Int),.slice lo 8 lc,.slice no 8 nc],.int .u8 (D:Int),.int .i64 (M:Int)] w0 fun e w'=>e=.returned (.tuple #[.int .i64 (i:Int),.int .i64 0])∧Below w0.heap.size w0 w'):=fun w0 lo lc no nc h=>by
  have:=HXP.select D M hD2 ⟨by omega,by omega⟩ w0 lo lc no nc h;obtain⟨e1,e2⟩:=ss_at (t:=t) (c:=D) (i:=i) hin hD.out.symm;rw[←hM.out]at e1 e2;rw[e1,e2]at this;exact this
 have DD:Hid (∀w0,Below w.heap.size w w0→∃b off,ot=some ⟨b,off,none⟩∧w0.cell? ⟨b,off+i,none⟩=some (.int .u8 (D:Nat))):=fun w0 hb=>by
  obtain⟨b,off,e,hbl,hcc⟩:=(Xt.keep hb) (by omega);exact⟨b,off,e,by rw[hcc i hin,hD.out]⟩
 clear HXP HXP2 hM;have i1':((i:Int)<(t.length:Int)):=by omega
 have i3:¬(t.length:Int)≤(i:Int):=by omega
 have di:decide ((i:Int)<0)=false:=decide_eq_false (by omega);have dl:decide (t.length≤i)=false:=decide_eq_false (by omega);clear Xt Ft hB hL hka_ hkb_ hi_;go_enter Tryz.func8,Tryz.ntmps8;go_wp2_with fail
 refine(H1.out _ (Below.refl _ _)).mono ?_;rintro e w1 ⟨lo,lc,no,nc,rfl,hP0,hb⟩;have hw:=hide hb;have b1:=below_alloc w1 (.cells [.int .i64 ka,.int .i64 (t.length:Int),.slice lo 8 lc,.slice no 8 nc].toArray 65)
 have hX:=hide (Cel.new w1 [.int .i64 ka,.int .i64 (t.length:Int),.slice lo 8 lc,.slice no 8 nc] 65);have hP:=hide (HK.out _ _ _ _ _ _ hP0 b1);replace hw:=hide (hw.out.trans (b1.mono hw.out.size));clear H1 hb b1 hP0
 go_wp2_with fail;refine(H12.out _ hw.out).mono ?_;rintro e w2 ⟨lo2,lc2,no2,nc2,rfl,hP0,hb⟩;replace hP:=hide (HK.out _ _ _ _ _ _ hP.out hb);replace hX:=hide (hX.out.kept hb)
 replace hw:=hide (hw.out.trans (hb.mono hw.out.size));have b1:=below_alloc w2 (.cells [.int .i64 kb,.int .i64 (t.length:Int),.slice lo2 8 lc2,.slice no2 8 nc2].toArray 65)
 have hX2:=hide (Cel.new w2 [.int .i64 kb,.int .i64 (t.length:Int),.slice lo2 8 lc2,.slice no2 8 nc2] 65);have hP2:=hide (HK2.out _ _ _ _ _ _ hP0 b1);replace hP:=hide (HK.out _ _ _ _ _ _ hP.out b1)
 replace hX:=hide (hX.out.kept b1);replace hw:=hide (hw.out.trans (b1.mono hw.out.size));clear H12 hb b1 hP0;have y0:=hX.out.cell 0 rfl;have y1:=hX.out.cell 1 rfl;have y2:=hX.out.cell 2 rfl;have y3:=hX.out.cell 3 rfl
 go_wp2_with fail;refine(HA1.out _ _ _ _ _ hP.out).mono ?_;rintro e w3 ⟨rfl,hb⟩;replace hP:=hide (HK.out _ _ _ _ _ _ hP.out hb);replace hX:=hide (hX.out.kept hb);replace hP2:=hide (HK2.out _ _ _ _ _ _ hP2.out hb)
 replace hX2:=hide (hX2.out.kept hb);replace hw:=hide (hw.out.trans (hb.mono hw.out.size));clear hb HA1 y0 y1 y2 y3;have v0:=hX2.out.cell 0 rfl;have v1:=hX2.out.cell 1 rfl;have v2:=hX2.out.cell 2 rfl
 have v3:=hX2.out.cell 3 rfl;go_wp2_with fail;refine(HA2.out _ _ _ _ _ hP2.out).mono ?_;rintro e w4 ⟨rfl,hb⟩;replace hP:=hide (HK.out _ _ _ _ _ _ hP.out hb);replace hX:=hide (hX.out.kept hb)
 replace hP2:=hide (HK2.out _ _ _ _ _ _ hP2.out hb);replace hX2:=hide (hX2.out.kept hb);replace hw:=hide (hw.out.trans (hb.mono hw.out.size));clear hb HA2 v0 v1 v2 v3;have y0:=hX.out.cell 0 rfl;have y1:=hX.out.cell 1 rfl
 have y2:=hX.out.cell 2 rfl;have y3:=hX.out.cell 3 rfl;go_wp2_with fail;refine(HR1.out _ _ _ _ _ hP.out).mono ?_;rintro e w5 ⟨rfl,hb⟩;replace hP:=hide (HK.out _ _ _ _ _ _ hP.out hb);replace hX:=hide (hX.out.kept hb)
 replace hP2:=hide (HK2.out _ _ _ _ _ _ hP2.out hb);replace hX2:=hide (hX2.out.kept hb);replace hw:=hide (hw.out.trans (hb.mono hw.out.size));clear hb HR1 y0 y1 y2 y3;have v0:=hX2.out.cell 0 rfl
 have v1:=hX2.out.cell 1 rfl;have v2:=hX2.out.cell 2 rfl;have v3:=hX2.out.cell 3 rfl;go_wp2_with fail;refine(HR2.out _ _ _ _ _ hP2.out).mono ?_;rintro e w6 ⟨rfl,hb⟩;replace hP:=hide (HK.out _ _ _ _ _ _ hP.out hb)
 replace hX:=hide (hX.out.kept hb);replace hP2:=hide (HK2.out _ _ _ _ _ _ hP2.out hb);replace hX2:=hide (hX2.out.kept hb);replace hw:=hide (hw.out.trans (hb.mono hw.out.size));clear hb HR2 v0 v1 v2 v3
 have y0:=hX.out.cell 0 rfl;have y1:=hX.out.cell 1 rfl;have y2:=hX.out.cell 2 rfl;have y3:=hX.out.cell 3 rfl;go_wp2_with fail;refine(HS1.out _ _ _ _ _ hP.out).mono ?_;rintro e w7 ⟨rfl,hb⟩
 replace hP:=hide (HK.out _ _ _ _ _ _ hP.out hb);replace hX:=hide (hX.out.kept hb);replace hP2:=hide (HK2.out _ _ _ _ _ _ hP2.out hb);replace hX2:=hide (hX2.out.kept hb)
 replace hw:=hide (hw.out.trans (hb.mono hw.out.size));clear hb HS1 y0 y1 y2 y3;clear hP hX hP2 hX2;obtain⟨b,off,rfl,hcell⟩:=DD.out w7 hw.out;clear DD;go_wp2_with fail;refine(HH.out _ hw.out).mono ?_;rintro e w9 ⟨rfl,hb⟩
 replace hw:=hide (hw.out.trans (hb.mono hw.out.size));go_wp2;go_ret;exact⟨rfl,hw.out⟩
theorem door_met(os:Os)(args:Array Value):laidMetH Tryz.prog [("errors.errorType",Rows.laid_errors_errorType),("haystack/rrr.ways",Rows.laid_haystack_rrr_ways),("haystack/rrr.widths",Rows.laid_haystack_rrr_widths)] ((World.doorLaid Tryz.prog 400 os).forCall (fun _ _=>0) ⟨#[],args,[]⟩).memory:=
 laidMetH_of_parts3 (fuel:=8) (laidMet_of_run' 8 (by kernel_rfl) (by kernel_rfl)) (by kernel_rfl) (by kernel_rfl)
theorem lifted(os:Os)(started:os.Started)(H:Type)(enc:TypeId×Value→H):
  ReturnsInHanded {} Tryz.checked os 8 .any (fun w args=>(Rows.matrixAlikeSpec.pre enc Tryz.prog Tryz.f8 [] false w args∧laidMetH Tryz.prog [("errors.errorType",Rows.laid_errors_errorType),("haystack/rrr.ways",Rows.laid_haystack_rrr_ways),("haystack/rrr.widths",Rows.laid_haystack_rrr_widths)] w)∧sizedMet enc Tryz.prog Tryz.f8 (OpenSpec.ofChange Rows.matrixAlikeSpec) false w args)
   (Rows.matrixAlikeSpec.post enc Tryz.prog Tryz.f8 false true false false):=by
 refine returnsInHanded_of_change_and (C:=Tryz.checked) (X:=fun w _=>laidMetH Tryz.prog [("errors.errorType",Rows.laid_errors_errorType),("haystack/rrr.ways",Rows.laid_haystack_rrr_ways),("haystack/rrr.widths",Rows.laid_haystack_rrr_widths)] w) (fun _ _ _ hh h=>h.of_heap hh) own started (by kernel_rfl) Tryz.func8
  (ChangeSpec.witness_shaped (enc:=enc) (C:=Tryz.checked) (os:=os) (X:=fun w _=>laidMetH Tryz.prog [("errors.errorType",Rows.laid_errors_errorType),("haystack/rrr.ways",Rows.laid_haystack_rrr_ways),("haystack/rrr.widths",Rows.laid_haystack_rrr_widths)] w) false (World.doorLaid Tryz.prog 400 os) #[.int .i64 0,.int .i64 0,.slice none 0 0,.int .i64 0] 8 rfl (World.shaped_of_RefB (by kernel_rfl) (by kernel_rfl)) (by kernel_rfl) (by kernel_rfl) (by kernel_rfl) (door_met os _)) ?_
 intro W base args ds gs before hval0 hW _ _ hL _;have hval:∀(j:Nat) t v,Tryz.f8.params[j]?=some t→args[j]?=some v→Value.okWide Tryz.prog W .any base t v:=hval0;have hW':=hW
 obtain⟨p,q,hA0,hV,rfl,hfz,hnd⟩:=hW;have hA:DataW.TrodAll enc Tryz.prog W 0 (fun _=>true) true Tryz.f8.params.toList args.toList ds p:=hA0;rw[Tryz.params8]at hA hval
 obtain⟨v0,vs0,d0,ds0,p0,q0,hargs,rfl,rfl,h0,r0⟩:=trodAll_cons hA;obtain⟨v1,vs1,d1,ds1,p1,q1,rfl,rfl,rfl,h1,r1⟩:=trodAll_cons r0;obtain⟨v2,vs2,d2,ds2,p2,q2,rfl,rfl,rfl,h2,r2⟩:=trodAll_cons r1
 obtain⟨v3,vs3,d3,ds3,p3,q3,rfl,rfl,rfl,h3,r3⟩:=trodAll_cons r2;obtain⟨rfl,rfl,rfl⟩:=trodAll_nil r3;obtain rfl:args=#[v0,v1,v2,v3]:=by cases args;simp_all
 obtain⟨rfl,rfl⟩:=trodVars_none hV;obtain⟨ka,rfl,rfl,rfl,w0⟩:=open_int Tryz.underlying3 (hval 0 3 v0 rfl rfl) h0;obtain⟨kb,rfl,rfl,rfl,w1⟩:=open_int Tryz.underlying3 (hval 1 3 v1 rfl rfl) h1;have k2:=h2
 have lt2:∀x∈p2,x.block<W.heap.size:=by obtain⟨m,hm⟩:=k2;exact DataW.trod_lt m _ _ _ hm
 obtain⟨ot,t,ct,rfl,b21,b22,b23⟩:=open_bytes (hval 2 22 v2 rfl rfl) h2;obtain⟨i,rfl,rfl,rfl,w3⟩:=open_int Tryz.underlying3 (hval 3 3 v3 rfl rfl) h3;clear hA0 hval0
 refine(walk W (gv_of_laid hL) ka (i64_wf _ w0) kb (i64_wf _ w1) ot t ct b21 b22 b23 i (i64_wf _ w3)).mono fun e W' ⟨he,bel⟩=>?_;subst he
 exact⟨_,rfl,_,_,_,[],_,[],hW',trodAll_mk1 (shut_bool Tryz.underlying4 _),(trodAll_cons_mk (shut_int Tryz.underlying3 w0) (trodAll_cons_mk (shut_int Tryz.underlying3 w1) (trodAll_cons_mk (Below.trod laidOut (by kernel_rfl) (of_decide_eq_true (by kernel_rfl)) k2 bel lt2) (trodAll_cons_mk (shut_int Tryz.underlying3 w3) trodAll_mk0)))),rfl,bel.frame _,fun h=>by cases h⟩
theorem closed:joinedFacts Tryz.prog 8 Tryz.f8 Rows.matrixAlikeSpec Rows.matrixAlikeRow=true:=by
 unfold joinedFacts;repeat' (with_reducible apply and_tt);all_goals decide +kernel
theorem over:Rows.matrixAlikeRow.holds Tryz.pinned (OpenSpec.ofChange Rows.matrixAlikeSpec):=
 OpenClaim.holds_of_wide 8 Tryz.f8 rfl rfl rfl rfl rfl rfl rfl ⟨rfl,rfl,rfl,rfl,rfl⟩ rfl rfl rfl rfl rfl (by kernel_rfl) Tryz.func8 closed
  (of_decide_eq_true (by kernel_rfl)) (by unfold Func.isWrapper;first | (rw[if_pos (by decide +kernel)];kernel_rfl) | (rw[if_neg (by decide +kernel)];exact⟨rfl,rfl⟩))
  (fun os started H enc _=>lifted os started H enc)
theorem proved:Rows.MatrixAlikeCardSaid:=
 Claim7.holds_tied_plain_at .later [] [.handle,.data,.data] true (true, "7dc86c0d37a791c5e197edebda7a118415b0d18b1a23dc2c250974a41f2107e1") true
  over (fun _ h=>by cases h) (by kernel_rfl) (fun _ h=>by cases h) matrixAlike_row_tie rfl ⟨rfl,rfl⟩ (by kernel_rfl) rfl
  (fun f fn hf hfn=>by
   obtain rfl:f=8:=Option.some.inj ((show Tryz.prog.funcNamed "haystack/haystacklaw14.MatrixAlike" =some 8 by kernel_rfl).symm.trans hf) |>.symm
   obtain rfl:fn=Tryz.f8:=(Option.some.inj (Tryz.func8.symm.trans hfn)).symm
   exact⟨by kernel_rfl,fun j t ht=>by
    rw[Tryz.params8]at ht;have hm:t∈[3,3,22,3]:=by simpa using Array.mem_of_getElem? ht
    have hall:([3,3,22,3].all fun u=>!Tryz.prog.wantsStandIn u)=true:=by kernel_rfl
    exact(show Tryz.prog.wantsStandIn t=false by simpa using List.all_eq_true.1 hall t hm)⟩)
  (by kernel_rfl)
end Go.Proofs.YtleegaihbgbcjaaGreatDoor.matrixAlike
namespace Go.Proofs.YtleegaihbgbcjaaGreatDoor
theorem matrixAlike_holds:Rows.MatrixAlikeCardSaid:=matrixAlike.proved
#print axioms matrixAlike_holds
end Go.Proofs.YtleegaihbgbcjaaGreatDoor
