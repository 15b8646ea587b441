/-
  VectorBuilds: what is built of every row is what the document says.
-/
import Derived.Test.YtpeecabfcgijhaaGreatDoorB33
import Derived.Test.YtpeecabfcgijhaaGreatDoorB02
import Derived.Test.YtpeecabfcgijhaaGreatDoorB35
import Derived.Test.YtpeecabfcgijhaaGreatDoorB36
import Derived.Test.YtpeecabfcgijhaaGreatDoorCards
import Derived.Test.YtpeecabfcgijhaaGreatDoorTie
import Derived.ChangeOld
import Derived.LaidMore
import Derived.SevenTiedAt
set_option linter.unusedVariables false
set_option linter.unusedSimpArgs false
set_option maxRecDepth 100000
set_option maxHeartbeats 16000000
namespace Go.Proofs.YtpeecabfcgijhaaGreatDoor.vectorBuilds
open Go.ChangeShapes Go.WideShapes Go.ChangeAt Go.RowKit Num Bit Bn
theorem walk (w : World) (G : GV w) (kd : Int) (hkd : -9223372036854775808 ≤ kd ∧ kd ≤ 9223372036854775807) (Nb : Int) (ab : Option Addr) (xb : List Nat) (cb : Nat) (hbN : -9223372036854775808 ≤ Nb ∧ Nb ≤ 9223372036854775807) (Xb : Wd w ab xb) (Fb : Fit xb) (Cb : xb.length ≤ cb) :
  Calls Tryz.prog 4 #[.int .i64 kd, .agg #[.int .i64 Nb, .slice ab xb.length cb]] w fun e w' => e = .returned (.bool true) ∧ Below w.heap.size w w' := by
 by_cases q1 : 3000 < Nb
 ·go_enter Tryz.func4, Tryz.ntmps4
  go_wp2_with fail
  refine (heads_c _ (by first | exact G.kept hw | exact G.kept hS.2.2.2.2 | exact G.kept hS.2.2 | exact G.kept (below_alloc w _))).mono ?_
  rintro e w9 ⟨rfl, hb⟩
  go_wp2
  go_ret
  exact ⟨rfl, (below_alloc w _).trans (hb.mono (by simp))⟩
 by_cases q2 : (3000 : Int) < (xb.length : Int)
 ·go_enter Tryz.func4, Tryz.ntmps4
  go_wp2_with fail
  refine (heads_c _ (by first | exact G.kept hw | exact G.kept hS.2.2.2.2 | exact G.kept hS.2.2 | exact G.kept (below_alloc w _))).mono ?_
  rintro e w9 ⟨rfl, hb⟩
  go_wp2
  go_ret
  exact ⟨rfl, (below_alloc w _).trans (hb.mono (by simp))⟩
 have hlx : xb.length ≤ 1048576 := by omega
 have H1 : Hid (∀ w0, Below w.heap.size w w0 → Calls Tryz.prog 9 #[.int .i64 kd, .agg #[.int .i64 Nb, .slice ab xb.length cb]] w0 fun e w' => ∃ cs : List Value, e = .returned (.tuple #[.agg cs.toArray, .int .i64 (kE kd Nb xb)]) ∧ KI w' cs (kB kd Nb xb) ∧ Below w0.heap.size w0 w') := fun w0 h => build_k kd Nb ab xb cb w0 hkd hbN (Xb.keep h) Fb Cb ⟨by omega, hlx⟩ (G.kept h)
 have H2 : Hid (∀ w0, Below w.heap.size w w0 → Calls Tryz.prog 13 #[.int .i64 kd, .agg #[.int .i64 Nb, .slice ab xb.length cb]] w0 fun e w' => ∃ cs : List Value, e = .returned (.tuple #[.agg cs.toArray, .int .i64 (kE kd Nb xb)]) ∧ KI w' cs (kB kd Nb xb) ∧ Below w0.heap.size w0 w') := fun w0 h => vbuild_k kd Nb ab xb cb w0 hkd hbN (Xb.keep h) Fb Cb ⟨by omega, hlx⟩ (G.kept h)
 generalize kB kd Nb xb = A1 at *
 generalize kE kd Nb xb = E1 at *
 have SZ : Hid (∀ w0 cs, KI w0 cs A1 → Calls Tryz.prog 15 #[.agg cs.toArray] w0 fun e w' => e = .returned (.int .i64 (kZ A1)) ∧ Below w0.heap.size w0 w') := fun w0 cs h => size_k cs A1 w0 h
 have RZ : Hid (∀ w0 cs, KI w0 cs A1 → Calls Tryz.prog 16 #[.agg cs.toArray] w0 fun e w' => e = .returned (.int .i64 (kZ A1)) ∧ Below w0.heap.size w0 w') := fun w0 cs h => v10size_k cs A1 w0 h
 have SM : Hid (∀ w0 cs ds, KI w0 cs A1 → KI w0 ds A1 → Calls Tryz.prog 14 #[.agg cs.toArray, .agg ds.toArray] w0 fun e w' => e = .returned (.bool true) ∧ Below w0.heap.size w0 w') := fun w0 cs ds h h2 => v10same_k cs ds A1 w0 h h2
 generalize kZ A1 = Z1 at *
 go_enter Tryz.func4, Tryz.ntmps4
 go_wp2_with fail
 refine (H1.out _ (below_alloc w _)).mono ?_
 rintro e w1 ⟨cs, rfl, hP1, hb⟩
 have hw := (below_alloc w _).trans (hb.mono (by simp))
 have B0 := (Cel.new w [.int .i64 Nb, .slice ab xb.length cb] 24).kept hb
 clear hb H1
 go_wp2_with (refine store_cel w1.heap.size [.int .i64 0, .int .i64 0, .slice none 0 0, .slice none 0 0, .slice none 0 0, .int .i64 0, .int .i64 0, .int .i64 0, .int .i64 0, .slice none 0 0, .int .i64 0, .slice none 0 0, .slice none 0 0, .slice none 0 0, .int .i64 0, .int .i64 0, .int .i64 0, .int .i64 0, .int .i64 0, .slice none 0 0, .int .i64 0, .slice none 0 0] cs rfl rfl (Cel.new w1 [.int .i64 0, .int .i64 0, .slice none 0 0, .slice none 0 0, .slice none 0 0, .int .i64 0, .int .i64 0, .int .i64 0, .int .i64 0, .slice none 0 0, .int .i64 0, .slice none 0 0, .slice none 0 0, .slice none 0 0, .int .i64 0, .int .i64 0, .int .i64 0, .int .i64 0, .int .i64 0, .slice none 0 0, .int .i64 0, .slice none 0 0] 37) hP1.arg.nine hP1.arg.len hP1.arg.one ?_)
 intro w2 Bw2 Ow2
 have bw2 : Below w1.heap.size w1 w2 := (below_alloc w1 _).trans (Ow2.below (Nat.le_refl _))
 replace hP1 := hP1.keep bw2
 replace hw := hw.trans (bw2.mono hw.size)
 replace B0 := B0.kept bw2
 clear Ow2 bw2
 generalize w1.heap.size = g1 at *
 have r0 := B0.cell 0 rfl
 have r1 := B0.cell 1 rfl
 go_wp2_with fail
 refine (H2.out _ hw).mono ?_
 rintro e w3 ⟨ds, rfl, hP2, hb⟩
 replace hP1 := hP1.keep hb
 replace Bw2 := Bw2.kept hb
 replace hw := hw.trans (hb.mono hw.size)
 clear hb H2 r0 r1 B0
 go_wp2_with (refine store_cel w3.heap.size [.int .i64 0, .int .i64 0, .slice none 0 0, .slice none 0 0, .slice none 0 0, .int .i64 0, .int .i64 0, .int .i64 0, .int .i64 0, .slice none 0 0, .int .i64 0, .slice none 0 0, .slice none 0 0, .slice none 0 0, .int .i64 0, .int .i64 0, .int .i64 0, .int .i64 0, .int .i64 0, .slice none 0 0, .int .i64 0, .slice none 0 0] ds rfl rfl (Cel.new w3 [.int .i64 0, .int .i64 0, .slice none 0 0, .slice none 0 0, .slice none 0 0, .int .i64 0, .int .i64 0, .int .i64 0, .int .i64 0, .slice none 0 0, .int .i64 0, .slice none 0 0, .slice none 0 0, .slice none 0 0, .int .i64 0, .int .i64 0, .int .i64 0, .int .i64 0, .int .i64 0, .slice none 0 0, .int .i64 0, .slice none 0 0] 37) hP2.arg.nine hP2.arg.len hP2.arg.one ?_)
 intro w4 Bw4 Ow4
 have bw4 : Below w3.heap.size w3 w4 := (below_alloc w3 _).trans (Ow4.below (Nat.le_refl _))
 replace hP2 := hP2.keep bw4
 replace hw := hw.trans (bw4.mono hw.size)
 replace hP1 := hP1.keep bw4
 replace Bw2 := Bw2.kept bw4
 clear Ow4 bw4
 generalize w3.heap.size = g2 at *
 have L1 := Hid.mk8 hP1.arg.len
 have L2 := Hid.mk8 hP2.arg.len
 go_wp2
 refine region_g [18] (fun w' => Cel w' g1 cs 37 ∧ Cel w' g2 ds 37 ∧ KI w' cs A1 ∧ KI w' ds A1 ∧ Below w.heap.size w w') (by kernel_rfl) ?_
 have bD : ∀ x : World, Below x.heap.size x x.drew := fun x => (Below.refl _ _).drew
 have hS := And.intro (Bw2.kept (bD _)) (And.intro (Bw4.kept (bD _)) (And.intro (hP1.keep (bD _)) (And.intro (hP2.keep (bD _)) hw.drew)))
 clear Bw2 Bw4 hP1 hP2 hw bD
 generalize w4.drew = wd at *
 refine AnyG.tf 0 (v := .agg cs.toArray) hS rfl (fun w0 h0 => by exact run_load_obj g1 cs rfl h0.1 Tryz.underlying37 L1.out) ?_
 refine AnyG.tf 1 (v := .agg ds.toArray) hS rfl (fun w0 h0 => by exact run_load_obj g2 ds rfl h0.2.1 Tryz.underlying37 L2.out) ?_
 refine AnyG.o1 2 ?_
 intro K hK
 go_simp
 refine (SM.out _ _ _ hS.2.2.1 hS.2.2.2.1).mono ?_
 rintro e w5 ⟨rfl, hb⟩
 replace hS := And.intro (hS.1.kept hb) (And.intro (hS.2.1.kept hb) (And.intro (hS.2.2.1.keep hb) (And.intro (hS.2.2.2.1.keep hb) (hS.2.2.2.2.trans (hb.mono hS.2.2.2.2.size)))))
 clear hb
 refine hK.out _ _ (fun _ => hS) ?_
 clear hK K
 try simp only [Act.put, yq0, yq1, yq2, yq3, yq4, yq5]
 refine AnyG.tk 3 hS ?_
 refine AnyG.tk 4 hS ?_
 refine AnyG.tk 5 hS ?_
 refine AnyG.tk 6 hS ?_
 refine AnyG.tk 7 hS ?_
 refine AnyG.tk 8 hS ?_
 refine AnyG.tf 9 (v := .agg cs.toArray) hS rfl (fun w0 h0 => by exact run_load_obj g1 cs rfl h0.1 Tryz.underlying37 L1.out) ?_
 refine AnyG.tf 11 (v := .agg ds.toArray) hS rfl (fun w0 h0 => by exact run_load_obj g2 ds rfl h0.2.1 Tryz.underlying37 L2.out) ?_
 refine AnyG.o1 10 ?_
 intro K hK
 go_simp
 refine (SZ.out _ _ hS.2.2.1).mono ?_
 rintro e w6 ⟨rfl, hb⟩
 replace hS := And.intro (hS.1.kept hb) (And.intro (hS.2.1.kept hb) (And.intro (hS.2.2.1.keep hb) (And.intro (hS.2.2.2.1.keep hb) (hS.2.2.2.2.trans (hb.mono hS.2.2.2.2.size)))))
 clear hb
 refine hK.out _ _ (fun _ => hS) ?_
 clear hK K
 try simp only [Act.put, yq0, yq1, yq2, yq3, yq4, yq5]
 refine AnyG.o1 12 ?_
 intro K hK
 go_simp
 refine (RZ.out _ _ hS.2.2.2.1).mono ?_
 rintro e w7 ⟨rfl, hb⟩
 replace hS := And.intro (hS.1.kept hb) (And.intro (hS.2.1.kept hb) (And.intro (hS.2.2.1.keep hb) (And.intro (hS.2.2.2.1.keep hb) (hS.2.2.2.2.trans (hb.mono hS.2.2.2.2.size)))))
 clear hb
 refine hK.out _ _ (fun _ => hS) ?_
 clear hK K
 try simp only [Act.put, yq0, yq1, yq2, yq3, yq4, yq5]
 refine AnyG.tk 13 hS ?_
 refine AnyG.tk 14 hS ?_
 refine AnyG.tk 15 hS ?_
 refine AnyG.o1 16 ?_
 intro K hK
 go_simp
 refine (heads_c _ (by first | exact G.kept hw | exact G.kept hS.2.2.2.2 | exact G.kept hS.2.2 | exact G.kept (below_alloc w _))).mono ?_
 rintro e w8 ⟨rfl, hb⟩
 replace hS := And.intro (hS.1.kept hb) (And.intro (hS.2.1.kept hb) (And.intro (hS.2.2.1.keep hb) (And.intro (hS.2.2.2.1.keep hb) (hS.2.2.2.2.trans (hb.mono hS.2.2.2.2.size)))))
 clear hb
 refine hK.out _ _ (fun _ => hS) ?_
 clear hK K
 try simp only [Act.put, yq0, yq1, yq2, yq3, yq4, yq5]
 refine AnyG.tk 17 hS ?_
 refine AnyG.o1 18 ?_
 intro K hK
 go_simp
 refine hK.out _ _ (fun h => absurd (by decide) h) ?_
 clear hK K
 try simp only [Act.put, yq0, yq1, yq2, yq3, yq4, yq5]
 refine AnyG.done (by kernel_rfl) ?_ _
 go_wp2
 go_ret
 exact ⟨rfl, hS.2.2.2.2⟩
theorem door_met (os : Os) (args : Array Value) : laidMetH Tryz.prog [("errors.errorType", Rows.laid_errors_errorType), ("haystack/rrr.ways", Rows.laid_haystack_rrr_ways), ("haystack/rrr.widths", Rows.laid_haystack_rrr_widths)] ((World.doorLaid Tryz.prog 400 os).forCall (fun _ _ => 0) ⟨#[], args, []⟩).memory :=
 laidMetH_of_parts3 (fuel := 8) (laidMet_of_run' 8 (by kernel_rfl) (by kernel_rfl)) (by kernel_rfl) (by kernel_rfl)
theorem lifted (os : Os) (started : os.Started) (H : Type) (enc : TypeId × Value → H) :
  ReturnsInHanded {} Tryz.checked os 4 .any (fun w args => (Rows.vectorBuildsSpec.pre enc Tryz.prog Tryz.f4 [] false w args ∧ laidMetH Tryz.prog [("errors.errorType", Rows.laid_errors_errorType), ("haystack/rrr.ways", Rows.laid_haystack_rrr_ways), ("haystack/rrr.widths", Rows.laid_haystack_rrr_widths)] w) ∧ sizedMet enc Tryz.prog Tryz.f4 (OpenSpec.ofChange Rows.vectorBuildsSpec) false w args)
   (Rows.vectorBuildsSpec.post enc Tryz.prog Tryz.f4 false true false false) := by
 refine returnsInHanded_of_change_and (C := Tryz.checked) (X := fun w _ => laidMetH Tryz.prog [("errors.errorType", Rows.laid_errors_errorType), ("haystack/rrr.ways", Rows.laid_haystack_rrr_ways), ("haystack/rrr.widths", Rows.laid_haystack_rrr_widths)] w) (fun _ _ _ hh h => h.of_heap hh) own started (by kernel_rfl) Tryz.func4
  (ChangeSpec.witness_shaped (enc := enc) (C := Tryz.checked) (os := os) (X := fun w _ => laidMetH Tryz.prog [("errors.errorType", Rows.laid_errors_errorType), ("haystack/rrr.ways", Rows.laid_haystack_rrr_ways), ("haystack/rrr.widths", Rows.laid_haystack_rrr_widths)] w) false (World.doorLaid Tryz.prog 400 os) #[.int .i64 0, .agg #[.int .i64 0, .slice none 0 0]] 8 rfl (World.shaped_of_RefB (by kernel_rfl) (by kernel_rfl)) (by kernel_rfl) (by kernel_rfl) (by kernel_rfl) (door_met os _)) ?_
 intro W base args ds gs before hval0 hW _ _ hL _
 have hval : ∀ (j : Nat) t v, Tryz.f4.params[j]? = some t → args[j]? = some v → Value.okWide Tryz.prog W .any base t v := hval0
 have hW' := hW
 obtain ⟨p, q, hA0, hV, rfl, hfz, hnd⟩ := hW
 have hA : DataW.TrodAll enc Tryz.prog W 0 (fun _ => true) true Tryz.f4.params.toList args.toList ds p := hA0
 rw [Tryz.params4] at hA hval
 obtain ⟨v0, vs0, d0, ds0, p0, q0, hargs, rfl, rfl, h0, r0⟩ := trodAll_cons hA
 obtain ⟨v1, vs1, d1, ds1, p1, q1, rfl, rfl, rfl, h1, r1⟩ := trodAll_cons r0
 obtain ⟨rfl, rfl, rfl⟩ := trodAll_nil r1
 obtain rfl : args = #[v0, v1] := by cases args; simp_all
 obtain ⟨rfl, rfl⟩ := trodVars_none hV
 obtain ⟨kd, rfl, rfl, rfl, w0⟩ := open_int Tryz.underlying3 (hval 0 3 v0 rfl rfl) h0
 have k1 := h1
 have lt1 : ∀ x ∈ p1, x.block < W.heap.size := by obtain ⟨m, hm⟩ := k1; exact DataW.trod_lt m _ _ _ hm
 obtain ⟨Nb, ab, xb, cb, rfl, bb1, bb2, bb3, bb4⟩ := open_bits (hval 1 24 v1 rfl rfl) h1
 clear hA0 hval0
 refine (walk W (gv_of_laid hL) kd (i64_wf _ w0) Nb ab xb cb bb1 bb2 bb3 bb4).mono fun e W' ⟨he, bel⟩ => ?_
 subst he
 exact ⟨_, rfl, _, _, _, [], _, [], hW', trodAll_mk1 (shut_bool Tryz.underlying4 _), (trodAll_cons_mk (shut_int Tryz.underlying3 w0) (trodAll_cons_mk (Below.trod laidOut (by kernel_rfl) (of_decide_eq_true (by kernel_rfl)) k1 bel lt1) trodAll_mk0)), rfl, bel.frame _, fun h => by cases h⟩
theorem closed : joinedFacts Tryz.prog 4 Tryz.f4 Rows.vectorBuildsSpec Rows.vectorBuildsRow = true := by
 unfold joinedFacts
 repeat' (with_reducible apply and_tt)
 all_goals decide +kernel
theorem over : Rows.vectorBuildsRow.holds Tryz.pinned (OpenSpec.ofChange Rows.vectorBuildsSpec) :=
 OpenClaim.holds_of_wide 4 Tryz.f4 rfl rfl rfl rfl rfl rfl rfl ⟨rfl, rfl, rfl, rfl, rfl⟩ rfl rfl rfl rfl rfl (by kernel_rfl) Tryz.func4 closed
  (of_decide_eq_true (by kernel_rfl)) (by unfold Func.isWrapper; first | (rw [if_pos (by decide +kernel)]; kernel_rfl) | (rw [if_neg (by decide +kernel)]; exact ⟨rfl, rfl⟩))
  (fun os started H enc _ => lifted os started H enc)
theorem proved : Rows.VectorBuildsCardSaid :=
 Claim7.holds_tied_plain_at .later [] [.handle, .data, .data] true (true, "2bd0379edccf0840bff9a4e248c1b4fe7872517fd67d6c1943d395fa38030269") true
  over (fun _ h => by cases h) (by kernel_rfl) (fun _ h => by cases h) vectorBuilds_row_tie rfl ⟨rfl, rfl⟩ (by kernel_rfl) rfl
  (fun f fn hf hfn => by
   obtain rfl : f = 4 := Option.some.inj ((show Tryz.prog.funcNamed "haystack/haystacklaw10.VectorBuilds" = some 4 by kernel_rfl).symm.trans hf) |>.symm
   obtain rfl : fn = Tryz.f4 := (Option.some.inj (Tryz.func4.symm.trans hfn)).symm
   exact ⟨by kernel_rfl, fun j t ht => by
    rw [Tryz.params4] at ht
    have hm : t ∈ [3, 24] := by simpa using Array.mem_of_getElem? ht
    have hall : ([3, 24].all fun u => !Tryz.prog.wantsStandIn u) = true := by kernel_rfl
    exact (show Tryz.prog.wantsStandIn t = false by simpa using List.all_eq_true.1 hall t hm)⟩)
  (by kernel_rfl)
end Go.Proofs.YtpeecabfcgijhaaGreatDoor.vectorBuilds
namespace Go.Proofs.YtpeecabfcgijhaaGreatDoor
theorem vectorBuilds_holds : Rows.VectorBuildsCardSaid := vectorBuilds.proved
#print axioms vectorBuilds_holds
end Go.Proofs.YtpeecabfcgijhaaGreatDoor
