/-
  MatrixBuilds: what is built of every text is what the document says.
-/
import Derived.Test.YtleegaihbgbcjabGreatDoorU28
import Derived.Test.YtleegaihbgbcjabGreatDoorCards
import Derived.Test.YtleegaihbgbcjabGreatDoorTie
import Derived.LaidMore
set_option linter.unusedVariables false
set_option linter.unusedSimpArgs false
set_option maxRecDepth 100000
set_option maxHeartbeats 16000000
open Go.Proofs.Tryz
namespace Go.Proofs.YtleegaihbgbcjabGreatDoor.matrixBuilds
open Go.ChangeShapes Go.WideShapes Go.ChangeAt Go.RowKit Num Bit
theorem CJ(k:Int)(ao:Option Addr)(t:List Nat)(cap:Nat)(w:World)(hK:aD k)(hx:Bd w ao t)(hB:fV t)(hn:t.length<=3000)(G:GV w):
  Calls prog 8 #[.int .i64 k,.slice ao t.length cap] w fun e w'=>∃lo lc zo zc,e=.returned (.tuple #[.agg #[.int .i64 (cO k t).K,.int .i64 (cO k t).N,.slice lo (cO k t).av.length lc,.slice zo (cO k t).zs.length zc],.int .i64 (mbE k)])/\MI w' lo lc zo zc (cO k t)/\Below w.heap.size w w':=by
 by_cases c:1<=k/\k<=3
 .have e:cO k t=mRx k t:=by unfold cO;rw[if_pos ((nG k).2 c)]
  rw[e,(nG k).2 c];refine(CN k ao t cap w c hx hB hn G).mono ?_;rintro e w' ⟨cs,rfl,h,hb⟩;have h0:=h;obtain⟨⟨lo,lc,zo,zc,rfl,_,_⟩,_,_,_,_⟩:=h;refine⟨lo,lc,zo,zc,?_,h0.mi,hb⟩
  show _=Ending.returned (.tuple #[.agg #[.int .i64 k,.int .i64 (t.length:Int),.slice lo (mA k t).length lc,.slice zo (mI (mZ t)).length zc],.int .i64 0]);rw[fK,dh,gn]
 .have e0:mbE k=5:=by unfold mbE;rw[if_neg c]
  have e:cO k t=⟨0,0,[],[]⟩:=by unfold cO;rw[e0];rfl
  rw[e,e0];refine mr (CS k ao t cap w hK c hx hB hn G) fun w' hb=>?_;exact⟨none,0,none,0,rfl,tM _ (G.keep hb),hb⟩
theorem walk(w:World)(G:GV w)(kd:Int)(hkd_: -9223372036854775808<=kd/\kd<=9223372036854775807)(ot:Option Addr)(t:List Nat)(ct:Nat)(Xt:Bd w ot t)(Ft:lM t)(Ct:t.length<=ct):
  Qq 4 #[.int .i64 kd,.slice ot t.length ct] w (.bool true):=by
 have HH:Hid (Qz w 7 #[] (.bool true)):=fun w0 h=>Ey w0 (G.keep h);by_cases hL:600<t.length
 .have hL2:(600:Int)<(t.length:Int):=by omega
  go_enter func4,ntmps4;go_wp2_with fail;refine mr (HH.out _ (Below.refl _ _)) fun w9 hb=>?_;go_wp2;go_ret;exact⟨rfl,hb⟩
 have hL2:¬(600:Int)<(t.length:Int):=by omega
 have hB:=Ft.byt;obtain⟨A,hA⟩:∃A,A=cO kd t:=⟨_,rfl⟩
 have m20:A.av.length<=20/\A.N<=600:=by
  rw[hA];unfold cO;split
  .exact⟨by show(mA kd t).length<=20;rw[fK];decide,by show(t.length:Int)<=600;omega⟩
  .exact⟨by decide,by decide⟩
 have H1:Hid (∀w0,Below w.heap.size w w0->Calls prog 8 #[.int .i64 kd,.slice ot t.length ct] w0 fun e w'=>∃lo lc zo zc,e=.returned (.tuple #[.agg #[.int .i64 A.K,.int .i64 A.N,.slice lo A.av.length lc,.slice zo A.zs.length zc],.int .i64 (mbE kd)])/\MI w' lo lc zo zc A/\Below w0.heap.size w0 w'):=fun w0 h=>by rw[hA];exact CJ kd ot t ct w0 hkd_ (Xt.keep h) hB (by omega) (G.keep h)
 have H2:Hid (∀w0,Below w.heap.size w w0->Calls prog 11 #[.int .i64 kd,.slice ot t.length ct] w0 fun e w'=>∃lo lc zo zc,e=.returned (.tuple #[.agg #[.int .i64 A.K,.int .i64 A.N,.slice lo A.av.length lc,.slice zo A.zs.length zc],.int .i64 (mbE kd)])/\MI w' lo lc zo zc A/\Below w0.heap.size w0 w'):=fun w0 h=>by rw[hA];exact sg kd ot t ct w0 hkd_ (Xt.keep h) hB (by omega) (G.keep h)
 have SM:Hid (∀w0 lo lc zo zc l2 c2 z2 d2,MI w0 lo lc zo zc A->MI w0 l2 c2 z2 d2 A->Qq 12 #[.agg #[.int .i64 A.K,.int .i64 A.N,.slice lo A.av.length lc,.slice zo A.zs.length zc],.agg #[.int .i64 A.K,.int .i64 A.N,.slice l2 A.av.length c2,.slice z2 A.zs.length d2]] w0 (.bool true)):=fun w0 lo lc zo zc l2 c2 z2 d2 h1 h2=>sa lo zo l2 z2 lc zc c2 d2 A A w0 h1 h2 m20.1 m20.1 true ⟨fun _=>rfl,fun _=>rfl⟩
 have SZ:Hid (∀w0 lo lc zo zc,MI w0 lo lc zo zc A->Qq 13 #[.agg #[.int .i64 A.K,.int .i64 A.N,.slice lo A.av.length lc,.slice zo A.zs.length zc]] w0 (.int .i64 (mZs A))):=fun w0 lo lc zo zc h=>tE lo lc zo zc A w0 h
 have RZ:Hid (∀w0 lo lc zo zc,MI w0 lo lc zo zc A->Qq 14 #[.agg #[.int .i64 A.K,.int .i64 A.N,.slice lo A.av.length lc,.slice zo A.zs.length zc]] w0 (.int .i64 (mZs A))):=fun w0 lo lc zo zc h=>by
  rw[xN];exact yJ lo lc zo zc A w0 h fun w1 hb=>yL ((h.keep hb).wh m20.1 m20.2)
 generalize mZs A=Z at *;generalize mbE kd=E at *;generalize A.K=K at *;generalize A.N=N at *;generalize A.av.length=m at *;generalize A.zs.length=m2 at *;clear hA m20 Xt Ft hB hL hkd_;go_enter func4,ntmps4
 go_wp2_with fail;refine(H1.out _ (Below.refl _ _)).mono ?_;rintro e w1 ⟨lo,lc,zo,zc,rfl,hP,hb⟩;have hw:=hb;clear H1 hb;have hX:=aa.new w1 [.int .i64 K,.int .i64 N,.slice lo m lc,.slice zo m2 zc] 27
 have b1:=below_alloc w1 (.cells [.int .i64 K,.int .i64 N,.slice lo m lc,.slice zo m2 zc].toArray 27);replace hP:=hP.keep b1;replace hw:=bg hw b1;clear b1;go_wp2_with fail;refine(H2.out _ hw).mono ?_
 rintro e w3 ⟨l2,c2,z2,d2,rfl,hQ,hb⟩;replace hP:=hP.keep hb;replace hX:=hX.kept hb;replace hw:=bg hw hb;clear H2 hb;have hY:=aa.new w3 [.int .i64 K,.int .i64 N,.slice l2 m c2,.slice z2 m2 d2] 27
 have b3:=below_alloc w3 (.cells [.int .i64 K,.int .i64 N,.slice l2 m c2,.slice z2 m2 d2].toArray 27);replace hP:=hP.keep b3;replace hQ:=hQ.keep b3;replace hX:=hX.kept b3;replace hw:=bg hw b3
 clear b3;go_wp2;generalize w1.heap.size=g1 at *;generalize w3.heap.size=g2 at *
 refine bn [18] (fun w'=>aa w' g1 [.int .i64 K,.int .i64 N,.slice lo m lc,.slice zo m2 zc] 27/\aa w' g2 [.int .i64 K,.int .i64 N,.slice l2 m c2,.slice z2 m2 d2] 27/\MI w' lo lc zo zc A/\MI w' l2 c2 z2 d2 A/\Below w.heap.size w w') (by kernel_rfl) ?_
 have hS:(fun w'=>aa w' g1 [.int .i64 K,.int .i64 N,.slice lo m lc,.slice zo m2 zc] 27/\aa w' g2 [.int .i64 K,.int .i64 N,.slice l2 m c2,.slice z2 m2 d2] 27/\MI w' lo lc zo zc A/\MI w' l2 c2 z2 d2 A/\Below w.heap.size w w') (w3.alloc (.cells [.int .i64 K,.int .i64 N,.slice l2 m c2,.slice z2 m2 d2].toArray 27)).drew:=⟨hX.drew,hY.drew,hP.keep ((Below.refl _ _).drew),hQ.keep ((Below.refl _ _).drew),hw.drew⟩
 clear hX hY hP hQ hw;generalize (w3.alloc (.cells [.int .i64 K,.int .i64 N,.slice l2 m c2,.slice z2 m2 d2].toArray 27)).drew=V at *
 refine aF 0 hS rfl (fun w0 h0=>by have y0:=h0.1.cell 0 rfl;have y1:=h0.1.cell 1 rfl;have y2:=h0.1.cell 2 rfl;have y3:=h0.1.cell 3 rfl;go_simp;try with_reducible rfl) ?_
 refine aF 1 hS rfl (fun w0 h0=>by have y0:=h0.2.1.cell 0 rfl;have y1:=h0.2.1.cell 1 rfl;have y2:=h0.2.1.cell 2 rfl;have y3:=h0.2.1.cell 3 rfl;go_simp;try with_reducible rfl) ?_;refine aO 2 ?_;intro K hK
 go_simp;refine mr (SM.out _ _ _ _ _ _ _ _ _ hS.2.2.1 hS.2.2.2.1) fun w5 hb=>?_
 replace hS:=And.intro (hS.1.kept hb) (And.intro (hS.2.1.kept hb) (And.intro (hS.2.2.1.keep hb) (And.intro (hS.2.2.2.1.keep hb) (hS.2.2.2.2.trans (hb.mono hS.2.2.2.2.size)))));clear hb;refine hK.out _ _ (fun _=>hS) ?_
 clear hK K;try simp only[Act.put,aw,ar,an,ah,aj,ai]
 refine aK 3 hS ?_;refine aK 4 hS ?_;refine aK 5 hS ?_;refine aK 6 hS ?_;refine aK 7 hS ?_;refine aK 8 hS ?_
 refine aF 9 hS rfl (fun w0 h0=>by have y0:=h0.1.cell 0 rfl;have y1:=h0.1.cell 1 rfl;have y2:=h0.1.cell 2 rfl;have y3:=h0.1.cell 3 rfl;go_simp;try with_reducible rfl) ?_
 refine aF 11 hS rfl (fun w0 h0=>by have y0:=h0.2.1.cell 0 rfl;have y1:=h0.2.1.cell 1 rfl;have y2:=h0.2.1.cell 2 rfl;have y3:=h0.2.1.cell 3 rfl;go_simp;try with_reducible rfl) ?_;refine aO 10 ?_;intro K hK
 go_simp;refine mr (SZ.out _ _ _ _ _ hS.2.2.1) fun w6 hb=>?_
 replace hS:=And.intro (hS.1.kept hb) (And.intro (hS.2.1.kept hb) (And.intro (hS.2.2.1.keep hb) (And.intro (hS.2.2.2.1.keep hb) (hS.2.2.2.2.trans (hb.mono hS.2.2.2.2.size)))));clear hb;refine hK.out _ _ (fun _=>hS) ?_
 clear hK K;try simp only[Act.put,aw,ar,an,ah,aj,ai]
 refine aO 12 ?_;intro K hK;go_simp;refine mr (RZ.out _ _ _ _ _ hS.2.2.2.1) fun w7 hb=>?_
 replace hS:=And.intro (hS.1.kept hb) (And.intro (hS.2.1.kept hb) (And.intro (hS.2.2.1.keep hb) (And.intro (hS.2.2.2.1.keep hb) (hS.2.2.2.2.trans (hb.mono hS.2.2.2.2.size)))));clear hb;refine hK.out _ _ (fun _=>hS) ?_
 clear hK K;try simp only[Act.put,aw,ar,an,ah,aj,ai]
 refine aK 13 hS ?_;refine aK 14 hS ?_;refine aK 15 hS ?_;refine aO 16 ?_;intro K hK;go_simp;refine mr (HH.out _ hS.2.2.2.2) fun w8 hb=>?_
 replace hS:=And.intro (hS.1.kept hb) (And.intro (hS.2.1.kept hb) (And.intro (hS.2.2.1.keep hb) (And.intro (hS.2.2.2.1.keep hb) (hS.2.2.2.2.trans (hb.mono hS.2.2.2.2.size)))));clear hb;refine hK.out _ _ (fun _=>hS) ?_
 clear hK K;try simp only[Act.put,aw,ar,an,ah,aj,ai]
 refine aK 17 hS ?_;refine aO 18 ?_;intro K hK;go_simp;refine hK.out _ _ (fun h=>absurd (by decide) h) ?_;clear hK K;try simp only[Act.put,aw,ar,an,ah,aj,ai]
 refine az.done (by kernel_rfl) ?_ _;go_wp2;go_ret;exact⟨rfl,hS.2.2.2.2⟩
theorem door_met(os:Os)(args:Array Value):laidMetH prog [("errors.errorType",Rows.laid_errors_errorType),("haystack/rrr.ways",Rows.laid_haystack_rrr_ways),("haystack/rrr.widths",Rows.laid_haystack_rrr_widths)] ((World.doorLaid prog 400 os).forCall (fun _ _=>0) ⟨#[],args,[]⟩).memory:=
 laidMetH_of_parts3 (fuel:=8) (laidMet_of_run' 8 (by kernel_rfl) (by kernel_rfl)) (by kernel_rfl) (by kernel_rfl)
theorem lifted(os:Os)(started:os.Started)(H:Type)(enc:TypeId×Value->H):
  ReturnsInHanded {} Tryz.checked os 4 .any (fun w args=>(Rows.matrixBuildsSpec.pre enc prog Tryz.f4 [] false w args/\laidMetH prog [("errors.errorType",Rows.laid_errors_errorType),("haystack/rrr.ways",Rows.laid_haystack_rrr_ways),("haystack/rrr.widths",Rows.laid_haystack_rrr_widths)] w)/\sizedMet enc prog Tryz.f4 (OpenSpec.ofChange Rows.matrixBuildsSpec) false w args)
   (Rows.matrixBuildsSpec.post enc prog Tryz.f4 false true false false):=by
 refine returnsInHanded_of_change_and (C:=Tryz.checked) (X:=fun w _=>laidMetH prog [("errors.errorType",Rows.laid_errors_errorType),("haystack/rrr.ways",Rows.laid_haystack_rrr_ways),("haystack/rrr.widths",Rows.laid_haystack_rrr_widths)] w) (fun _ _ _ hh h=>h.of_heap hh) own started (by kernel_rfl) func4
  (ChangeSpec.witness_shaped (enc:=enc) (C:=Tryz.checked) (os:=os) (X:=fun w _=>laidMetH prog [("errors.errorType",Rows.laid_errors_errorType),("haystack/rrr.ways",Rows.laid_haystack_rrr_ways),("haystack/rrr.widths",Rows.laid_haystack_rrr_widths)] w) false (World.doorLaid prog 400 os) #[.int .i64 0,.slice none 0 0] 8 rfl (World.shaped_of_RefB (by kernel_rfl) (by kernel_rfl)) (by kernel_rfl) (by kernel_rfl) (by kernel_rfl) (door_met os _)) ?_
 intro W base args ds gs before hval0 hW _ _ hL _;have hval:∀(j:Nat) t v,Tryz.f4.params[j]?=some t->args[j]?=some v->Value.okWide prog W .any base t v:=hval0;have hW':=hW
 obtain⟨p,q,hA0,hV,rfl,hfz,hnd⟩:=hW;have hA:DataW.TrodAll enc prog W 0 (fun _=>true) true Tryz.f4.params.toList args.toList ds p:=hA0;rw[Tryz.params4]at hA hval
 obtain⟨v0,vs0,d0,ds0,p0,q0,hargs,rfl,rfl,h0,r0⟩:=trodAll_cons hA;obtain⟨v1,vs1,d1,ds1,p1,q1,rfl,rfl,rfl,h1,r1⟩:=trodAll_cons r0;obtain⟨rfl,rfl,rfl⟩:=trodAll_nil r1
 obtain rfl:args=#[v0,v1]:=by cases args;simp_all
 obtain⟨rfl,rfl⟩:=trodVars_none hV;obtain⟨kd,rfl,rfl,rfl,w0⟩:=open_int underlying3 (hval 0 3 v0 rfl rfl) h0;have k1:=h1
 have lt1:∀x∈p1,x.block<W.heap.size:=by obtain⟨m,hm⟩:=k1;exact DataW.trod_lt m _ _ _ hm
 obtain⟨ot,t,ct,rfl,b11,b12,b13⟩:=Bi (hval 1 22 v1 rfl rfl) h1;clear hA0 hval0;refine(walk W (Ez hL) kd (Ev _ w0) ot t ct b11 b12 b13).mono fun e W' ⟨he,bel⟩=>?_;subst he
 exact⟨_,rfl,_,_,_,[],_,[],hW',trodAll_mk1 (shut_bool underlying4 _),(trodAll_cons_mk (shut_int underlying3 w0) (trodAll_cons_mk (Below.trod DS (by kernel_rfl) (of_decide_eq_true (by kernel_rfl)) k1 bel lt1) trodAll_mk0)),rfl,bel.frame _,fun h=>by cases h⟩
theorem closed:joinedFacts prog 4 Tryz.f4 Rows.matrixBuildsSpec Rows.matrixBuildsRow=true:=by
 unfold joinedFacts;repeat' (with_reducible apply Ic);all_goals decide +kernel
theorem over:Rows.matrixBuildsRow.holds Tryz.pinned (OpenSpec.ofChange Rows.matrixBuildsSpec):=
 OpenClaim.holds_of_wide 4 Tryz.f4 rfl rfl rfl rfl rfl rfl rfl ⟨rfl,rfl,rfl,rfl,rfl⟩ rfl rfl rfl rfl rfl (by kernel_rfl) func4 closed
  (of_decide_eq_true (by kernel_rfl)) (by unfold Func.isWrapper;first | (rw[if_pos (by decide +kernel)];kernel_rfl) | (rw[if_neg (by decide +kernel)];exact⟨rfl,rfl⟩))
  (fun os started H enc _=>lifted os started H enc)
theorem proved:Rows.MatrixBuildsCardSaid:=
 Claim7.holds_tied_plain_at .later [] [.handle,.data,.data] true (true, "7b508cc1f8ab7d2856745cbd51bcc22d90ed0c50f55d16c0d4c975af93704cd1") true
  over (fun _ h=>by cases h) (by kernel_rfl) (fun _ h=>by cases h) matrixBuilds_row_tie rfl ⟨rfl,rfl⟩ (by kernel_rfl) rfl
  (fun f fn hf hfn=>by
   obtain rfl:f=4:=Option.some.inj ((show prog.funcNamed "haystack/haystacklaw14.MatrixBuilds" =some 4 by kernel_rfl).symm.trans hf) |>.symm
   obtain rfl:fn=Tryz.f4:=(Option.some.inj (func4.symm.trans hfn)).symm
   exact⟨by kernel_rfl,fun j t ht=>by
    rw[Tryz.params4]at ht;have hm:t∈[3,22]:=by simpa using Array.mem_of_getElem? ht
    have hall:([3,22].all fun u=>!prog.wantsStandIn u)=true:=by kernel_rfl
    exact(show prog.wantsStandIn t=false by simpa using List.all_eq_true.1 hall t hm)⟩)
  (by kernel_rfl)
end Go.Proofs.YtleegaihbgbcjabGreatDoor.matrixBuilds
namespace Go.Proofs.YtleegaihbgbcjabGreatDoor
theorem matrixBuilds_holds:Rows.MatrixBuildsCardSaid:=matrixBuilds.proved
#print axioms matrixBuilds_holds
end Go.Proofs.YtleegaihbgbcjabGreatDoor
