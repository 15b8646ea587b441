/-
  TreeBuilds: what is built of every text is what the document says.
-/
import Derived.Test.YtfnkklkdajlhlaaGreatDoorU28
import Derived.Test.YtfnkklkdajlhlaaGreatDoorCards
import Derived.Test.YtfnkklkdajlhlaaGreatDoorTie
import Derived.ChangeOld
import Derived.LaidMore
import Derived.SevenTiedAt
set_option linter.unusedVariables false
set_option linter.unusedSimpArgs false
set_option maxRecDepth 100000
set_option maxHeartbeats 16000000
namespace Go.Proofs.YtfnkklkdajlhlaaGreatDoor.treeBuilds
open Go.ChangeShapes Go.WideShapes Go.ChangeAt Go.RowKit Num Bit
theorem walk(w:World)(GW:GV w)(kd:Int)(hkd_: -9223372036854775808≤kd∧kd≤9223372036854775807)(ot:Option Addr)(t:List Nat)(ct:Nat)(Xt:Bd w ot t)(Ft:Bytes t)(Ct:t.length≤ct):
  Calls Tryz.prog 5 #[.int .i64 kd,.slice ot t.length ct] w fun e w'=>e=.returned (.bool true)∧Below w.heap.size w w':=by
 by_cases hL:600<t.length
 ·have hL2:(600:Int)<(t.length:Int):=by omega
  go_enter Tryz.func5,Tryz.ntmps5;go_wp2_with fail;refine(heads_c _ (GW.kept (by first | assumption | exact hS.2.2.2.2 | exact hS.1.1.2 | exact Below.refl _ _))).mono ?_;rintro e w9 ⟨rfl,hb⟩;go_wp2;go_ret;exact⟨rfl,hb⟩
 have hL2:¬(600:Int)<(t.length:Int):=by omega
 have hB:=Ft.byt;obtain⟨A,hA⟩:∃A,A=tBx kd t:=⟨_,rfl⟩
 have m20:A.av.length≤20:=by
  rw[hA];unfold tBx;split
  ·simp[tB]
  ·simp
 have H1:Hid (∀w0,Below w.heap.size w w0→Calls Tryz.prog 9 #[.int .i64 kd,.slice ot t.length ct] w0 fun e w'=>∃lo lc,e=.returned (.tuple #[.agg #[.int .i64 A.K,.int .i64 A.N,.slice lo A.av.length lc],.int .i64 (tbE kd)])∧TI w' lo lc A∧Below w0.heap.size w0 w'):=fun w0 h=>by rw[hA];exact build_t kd ot t ct w0 hkd_ (Xt.keep h) hB (by omega) (GW.kept h)
 have H2:Hid (∀w0,Below w.heap.size w w0→Calls Tryz.prog 14 #[.int .i64 kd,.slice ot t.length ct] w0 fun e w'=>∃lo lc,e=.returned (.tuple #[.agg #[.int .i64 A.K,.int .i64 A.N,.slice lo A.av.length lc],.int .i64 (tbE kd)])∧TI w' lo lc A∧Below w0.heap.size w0 w'):=fun w0 h=>by rw[hA];exact rbuild_t kd ot t ct w0 hkd_ (Xt.keep h) hB (by omega) (GW.kept h)
 have SM:Hid (∀w0 lo lc l2 c2,TI w0 lo lc A→TI w0 l2 c2 A→Calls Tryz.prog 15 #[.agg #[.int .i64 A.K,.int .i64 A.N,.slice lo A.av.length lc],.agg #[.int .i64 A.K,.int .i64 A.N,.slice l2 A.av.length c2]] w0 fun e w'=>e=.returned (.bool true)∧Below w0.heap.size w0 w'):=fun w0 lo lc l2 c2 h1 h2=>rsame_eq lo l2 lc c2 A w0 h1 h2 m20
 have SZ:Hid (∀w0 lo lc,TI w0 lo lc A→Calls Tryz.prog 16 #[.agg #[.int .i64 A.K,.int .i64 A.N,.slice lo A.av.length lc]] w0 fun e w'=>e=.returned (.int .i64 (tZ A))∧Below w0.heap.size w0 w'):=fun w0 lo lc h=>size_t vcA lo lc A w0 h (fun _ _=>trivial)
 have RZ:Hid (∀w0 lo lc,TI w0 lo lc A→Calls Tryz.prog 17 #[.agg #[.int .i64 A.K,.int .i64 A.N,.slice lo A.av.length lc]] w0 fun e w'=>e=.returned (.int .i64 (tZ A))∧Below w0.heap.size w0 w'):=fun w0 lo lc h=>rsize_g lo lc A w0 h fun w1 hb=>by
  have h1:=h.keep hb;rw[hA]at h1⊢;exact rcheck_t kd lo lc t w1 h1 hB (by omega)
 have XT:Hid (∀w0,Below w.heap.size w w0→Bd w0 ot t):=fun w0 hb=>Xt.keep hb;generalize tZ A=Z at *;generalize tbE kd=E at *;generalize A.K=K at *;generalize A.N=N at *;generalize A.av.length=m at *
 clear hA m20 Xt Ft hB hL hkd_ XT;go_enter Tryz.func5,Tryz.ntmps5;go_wp2_with fail;refine(H1.out _ (Below.refl _ _)).mono ?_;rintro e w1 ⟨lo,lc,rfl,hP,hb⟩;have hw:=hb;clear H1 hb
 have hX:=Cel.new w1 [.int .i64 K,.int .i64 N,.slice lo m lc] 26;have b1:=below_alloc w1 (.cells [.int .i64 K,.int .i64 N,.slice lo m lc].toArray 26);replace hP:=hP.keep b1;replace hw:=hw.trans (b1.mono hw.size)
 clear b1;go_wp2_with fail;refine(H2.out _ hw).mono ?_;rintro e w3 ⟨l2,c2,rfl,hQ,hb⟩;replace hP:=hP.keep hb;replace hX:=hX.kept hb;replace hw:=hw.trans (hb.mono hw.size);clear H2 hb
 have hY:=Cel.new w3 [.int .i64 K,.int .i64 N,.slice l2 m c2] 26;have b3:=below_alloc w3 (.cells [.int .i64 K,.int .i64 N,.slice l2 m c2].toArray 26);replace hP:=hP.keep b3;replace hQ:=hQ.keep b3
 replace hX:=hX.kept b3;replace hw:=hw.trans (b3.mono hw.size);clear b3;go_wp2;generalize w1.heap.size=g1 at *;generalize w3.heap.size=g2 at *
 refine region_g [18] (fun w'=>Cel w' g1 [.int .i64 K,.int .i64 N,.slice lo m lc] 26∧Cel w' g2 [.int .i64 K,.int .i64 N,.slice l2 m c2] 26∧TI w' lo lc A∧TI w' l2 c2 A∧Below w.heap.size w w') (by kernel_rfl) ?_
 have hS:(fun w'=>Cel w' g1 [.int .i64 K,.int .i64 N,.slice lo m lc] 26∧Cel w' g2 [.int .i64 K,.int .i64 N,.slice l2 m c2] 26∧TI w' lo lc A∧TI w' l2 c2 A∧Below w.heap.size w w') (w3.alloc (.cells [.int .i64 K,.int .i64 N,.slice l2 m c2].toArray 26)).drew:=⟨hX.drew,hY.drew,hP.keep ((Below.refl _ _).drew),hQ.keep ((Below.refl _ _).drew),hw.drew⟩
 clear hX hY hP hQ hw;generalize (w3.alloc (.cells [.int .i64 K,.int .i64 N,.slice l2 m c2].toArray 26)).drew=V at *
 refine AnyG.tf 0 hS rfl (fun w0 h0=>by have y0:=h0.1.cell 0 rfl;have y1:=h0.1.cell 1 rfl;have y2:=h0.1.cell 2 rfl;go_simp;try with_reducible rfl) ?_
 refine AnyG.tf 1 hS rfl (fun w0 h0=>by have y0:=h0.2.1.cell 0 rfl;have y1:=h0.2.1.cell 1 rfl;have y2:=h0.2.1.cell 2 rfl;go_simp;try with_reducible rfl) ?_;refine AnyG.o1 2 ?_;intro K hK;go_simp
 refine(SM.out _ _ _ _ _ hS.2.2.1 hS.2.2.2.1).mono ?_;rintro e w5 ⟨rfl,hb⟩
 replace hS:=And.intro (hS.1.kept hb) (And.intro (hS.2.1.kept hb) (And.intro (hS.2.2.1.keep hb) (And.intro (hS.2.2.2.1.keep hb) (hS.2.2.2.2.trans (hb.mono hS.2.2.2.2.size)))));clear hb;refine hK.out _ _ (fun _=>hS) ?_
 clear hK K;try simp only[Act.put,yq0,yq1,yq2,yq3,yq4,yq5]
 refine AnyG.tk 3 hS ?_;refine AnyG.tk 4 hS ?_;refine AnyG.tk 5 hS ?_;refine AnyG.tk 6 hS ?_;refine AnyG.tk 7 hS ?_;refine AnyG.tk 8 hS ?_
 refine AnyG.tf 9 hS rfl (fun w0 h0=>by have y0:=h0.1.cell 0 rfl;have y1:=h0.1.cell 1 rfl;have y2:=h0.1.cell 2 rfl;go_simp;try with_reducible rfl) ?_
 refine AnyG.tf 11 hS rfl (fun w0 h0=>by have y0:=h0.2.1.cell 0 rfl;have y1:=h0.2.1.cell 1 rfl;have y2:=h0.2.1.cell 2 rfl;go_simp;try with_reducible rfl) ?_;refine AnyG.o1 10 ?_;intro K hK;go_simp
 refine(SZ.out _ _ _ hS.2.2.1).mono ?_;rintro e w6 ⟨rfl,hb⟩
 replace hS:=And.intro (hS.1.kept hb) (And.intro (hS.2.1.kept hb) (And.intro (hS.2.2.1.keep hb) (And.intro (hS.2.2.2.1.keep hb) (hS.2.2.2.2.trans (hb.mono hS.2.2.2.2.size)))));clear hb;refine hK.out _ _ (fun _=>hS) ?_
 clear hK K;try simp only[Act.put,yq0,yq1,yq2,yq3,yq4,yq5]
 refine AnyG.o1 12 ?_;intro K hK;go_simp;refine(RZ.out _ _ _ hS.2.2.2.1).mono ?_;rintro e w7 ⟨rfl,hb⟩
 replace hS:=And.intro (hS.1.kept hb) (And.intro (hS.2.1.kept hb) (And.intro (hS.2.2.1.keep hb) (And.intro (hS.2.2.2.1.keep hb) (hS.2.2.2.2.trans (hb.mono hS.2.2.2.2.size)))));clear hb;refine hK.out _ _ (fun _=>hS) ?_
 clear hK K;try simp only[Act.put,yq0,yq1,yq2,yq3,yq4,yq5]
 refine AnyG.tk 13 hS ?_;refine AnyG.tk 14 hS ?_;refine AnyG.tk 15 hS ?_;refine AnyG.o1 16 ?_;intro K hK;go_simp
 refine(heads_c _ (GW.kept (by first | assumption | exact hS.2.2.2.2 | exact hS.1.1.2 | exact Below.refl _ _))).mono ?_;rintro e w8 ⟨rfl,hb⟩
 replace hS:=And.intro (hS.1.kept hb) (And.intro (hS.2.1.kept hb) (And.intro (hS.2.2.1.keep hb) (And.intro (hS.2.2.2.1.keep hb) (hS.2.2.2.2.trans (hb.mono hS.2.2.2.2.size)))));clear hb;refine hK.out _ _ (fun _=>hS) ?_
 clear hK K;try simp only[Act.put,yq0,yq1,yq2,yq3,yq4,yq5]
 refine AnyG.tk 17 hS ?_;refine AnyG.o1 18 ?_;intro K hK;go_simp;refine hK.out _ _ (fun h=>absurd (by decide) h) ?_;clear hK K;try simp only[Act.put,yq0,yq1,yq2,yq3,yq4,yq5]
 refine AnyG.done (by kernel_rfl) ?_ _;go_wp2;go_ret;exact⟨rfl,hS.2.2.2.2⟩
theorem door_met(os:Os)(args:Array Value):laidMetH Tryz.prog [("errors.errorType",Rows.laid_errors_errorType),("haystack/rrr.ways",Rows.laid_haystack_rrr_ways),("haystack/rrr.widths",Rows.laid_haystack_rrr_widths)] ((World.doorLaid Tryz.prog 400 os).forCall (fun _ _=>0) ⟨#[],args,[]⟩).memory:=
 laidMetH_of_parts3 (fuel:=8) (laidMet_of_run' 8 (by kernel_rfl) (by kernel_rfl)) (by kernel_rfl) (by kernel_rfl)
theorem lifted(os:Os)(started:os.Started)(H:Type)(enc:TypeId×Value→H):
  ReturnsInHanded {} Tryz.checked os 5 .any (fun w args=>(Rows.treeBuildsSpec.pre enc Tryz.prog Tryz.f5 [] false w args∧laidMetH Tryz.prog [("errors.errorType",Rows.laid_errors_errorType),("haystack/rrr.ways",Rows.laid_haystack_rrr_ways),("haystack/rrr.widths",Rows.laid_haystack_rrr_widths)] w)∧sizedMet enc Tryz.prog Tryz.f5 (OpenSpec.ofChange Rows.treeBuildsSpec) false w args)
   (Rows.treeBuildsSpec.post enc Tryz.prog Tryz.f5 false true false false):=by
 refine returnsInHanded_of_change_and (C:=Tryz.checked) (X:=fun w _=>laidMetH Tryz.prog [("errors.errorType",Rows.laid_errors_errorType),("haystack/rrr.ways",Rows.laid_haystack_rrr_ways),("haystack/rrr.widths",Rows.laid_haystack_rrr_widths)] w) (fun _ _ _ hh h=>h.of_heap hh) own started (by kernel_rfl) Tryz.func5
  (ChangeSpec.witness_shaped (enc:=enc) (C:=Tryz.checked) (os:=os) (X:=fun w _=>laidMetH Tryz.prog [("errors.errorType",Rows.laid_errors_errorType),("haystack/rrr.ways",Rows.laid_haystack_rrr_ways),("haystack/rrr.widths",Rows.laid_haystack_rrr_widths)] w) false (World.doorLaid Tryz.prog 400 os) #[.int .i64 0,.slice none 0 0] 8 rfl (World.shaped_of_RefB (by kernel_rfl) (by kernel_rfl)) (by kernel_rfl) (by kernel_rfl) (by kernel_rfl) (door_met os _)) ?_
 intro W base args ds gs before hval0 hW _ _ hL _;have hval:∀(j:Nat) t v,Tryz.f5.params[j]?=some t→args[j]?=some v→Value.okWide Tryz.prog W .any base t v:=hval0;have hW':=hW
 obtain⟨p,q,hA0,hV,rfl,hfz,hnd⟩:=hW;have hA:DataW.TrodAll enc Tryz.prog W 0 (fun _=>true) true Tryz.f5.params.toList args.toList ds p:=hA0;rw[Tryz.params5]at hA hval
 obtain⟨v0,vs0,d0,ds0,p0,q0,hargs,rfl,rfl,h0,r0⟩:=trodAll_cons hA;obtain⟨v1,vs1,d1,ds1,p1,q1,rfl,rfl,rfl,h1,r1⟩:=trodAll_cons r0;obtain⟨rfl,rfl,rfl⟩:=trodAll_nil r1
 obtain rfl:args=#[v0,v1]:=by cases args;simp_all
 obtain⟨rfl,rfl⟩:=trodVars_none hV;obtain⟨kd,rfl,rfl,rfl,w0⟩:=open_int Tryz.underlying3 (hval 0 3 v0 rfl rfl) h0;have k1:=h1
 have lt1:∀x∈p1,x.block<W.heap.size:=by obtain⟨m,hm⟩:=k1;exact DataW.trod_lt m _ _ _ hm
 obtain⟨ot,t,ct,rfl,b11,b12,b13⟩:=open_bytes (hval 1 22 v1 rfl rfl) h1;clear hA0 hval0;refine(walk W (gv_of_laid hL) kd (i64_wf _ w0) ot t ct b11 b12 b13).mono fun e W' ⟨he,bel⟩=>?_;subst he
 exact⟨_,rfl,_,_,_,[],_,[],hW',trodAll_mk1 (shut_bool Tryz.underlying4 _),(trodAll_cons_mk (shut_int Tryz.underlying3 w0) (trodAll_cons_mk (Below.trod laidOut (by kernel_rfl) (of_decide_eq_true (by kernel_rfl)) k1 bel lt1) trodAll_mk0)),rfl,bel.frame _,fun h=>by cases h⟩
theorem closed:joinedFacts Tryz.prog 5 Tryz.f5 Rows.treeBuildsSpec Rows.treeBuildsRow=true:=by
 unfold joinedFacts;repeat' (with_reducible apply and_tt);all_goals decide +kernel
theorem over:Rows.treeBuildsRow.holds Tryz.pinned (OpenSpec.ofChange Rows.treeBuildsSpec):=
 OpenClaim.holds_of_wide 5 Tryz.f5 rfl rfl rfl rfl rfl rfl rfl ⟨rfl,rfl,rfl,rfl,rfl⟩ rfl rfl rfl rfl rfl (by kernel_rfl) Tryz.func5 closed
  (of_decide_eq_true (by kernel_rfl)) (by unfold Func.isWrapper;first | (rw[if_pos (by decide +kernel)];kernel_rfl) | (rw[if_neg (by decide +kernel)];exact⟨rfl,rfl⟩))
  (fun os started H enc _=>lifted os started H enc)
theorem proved:Rows.TreeBuildsCardSaid:=
 Claim7.holds_tied_plain_at .later [] [.handle,.data,.data] true (true, "682ab52273e9416ee50490cc01aab7b7bbe3c1ea5b76be4e26232a9cc66b42fb") true
  over (fun _ h=>by cases h) (by kernel_rfl) (fun _ h=>by cases h) treeBuilds_row_tie rfl ⟨rfl,rfl⟩ (by kernel_rfl) rfl
  (fun f fn hf hfn=>by
   obtain rfl:f=5:=Option.some.inj ((show Tryz.prog.funcNamed "haystack/haystacklaw12.TreeBuilds" =some 5 by kernel_rfl).symm.trans hf) |>.symm
   obtain rfl:fn=Tryz.f5:=(Option.some.inj (Tryz.func5.symm.trans hfn)).symm
   exact⟨by kernel_rfl,fun j t ht=>by
    rw[Tryz.params5]at ht;have hm:t∈[3,22]:=by simpa using Array.mem_of_getElem? ht
    have hall:([3,22].all fun u=>!Tryz.prog.wantsStandIn u)=true:=by kernel_rfl
    exact(show Tryz.prog.wantsStandIn t=false by simpa using List.all_eq_true.1 hall t hm)⟩)
  (by kernel_rfl)
end Go.Proofs.YtfnkklkdajlhlaaGreatDoor.treeBuilds
namespace Go.Proofs.YtfnkklkdajlhlaaGreatDoor
theorem treeBuilds_holds:Rows.TreeBuildsCardSaid:=treeBuilds.proved
#print axioms treeBuilds_holds
end Go.Proofs.YtfnkklkdajlhlaaGreatDoor
