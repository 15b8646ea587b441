/-
  VectorTells: what one tells is what the document says, right or not.
-/
import Derived.Test.YtpeecabfcgijhaaGreatDoorT33
import Derived.Test.YtpeecabfcgijhaaGreatDoorT02
import Derived.Test.YtpeecabfcgijhaaGreatDoorT36
import Derived.Test.YtpeecabfcgijhaaGreatDoorT37
import Derived.Test.YtpeecabfcgijhaaGreatDoorCards
import Derived.Test.YtpeecabfcgijhaaGreatDoorTie
import Derived.ChangeOld
import Derived.LaidMore
import Derived.SevenTiedAt
set_option linter.unusedVariables false
set_option linter.unusedSimpArgs false
set_option maxRecDepth 100000
set_option maxHeartbeats 16000000
namespace Go.Proofs.YtpeecabfcgijhaaGreatDoor.vectorTells
open Go.ChangeShapes Go.WideShapes Go.ChangeAt Go.RowKit Num Bit Bn
theorem walk (w : World) (G : GV w) (cx : List Value) (x : RA) (Px : KArg w cx x) (b : Bool) (i : Int) (hi : -9223372036854775808 ≤ i ∧ i ≤ 9223372036854775807) :
  Calls Tryz.prog 5 #[.agg cx.toArray, .bool b, .int .i64 i] w fun e w' => e = .returned (.bool true) ∧ Below w.heap.size w w' := by
 have SMA : Hid (∀ w0 : World, KArg w0 cx x → Calls Tryz.prog 17 #[.agg cx.toArray] w0 fun e w' => e = .returned (.bool (smB x)) ∧ Below w0.heap.size w0 w') := fun w0 h => small_k cx x w0 h
 have LX := Px.len
 cases hs : smB x with
 | false =>
  rw [hs] at SMA
  clear hs
  have hP := Px.keep (below_alloc w (.cells cx.toArray 37))
  have hB := Cel.new w cx 37
  go_enter Tryz.func5, Tryz.ntmps5
  go_wp2_with (refine load_obj w.heap.size cx (by rfl) rfl hB Tryz.underlying37 LX ?_)
  refine (SMA.out _ hP).mono ?_
  rintro e w1 ⟨rfl, hb⟩
  have hw := (below_alloc w _).trans (hb.mono (by simp))
  clear hb hB hP
  go_wp2_with fail
  refine (heads_c _ (by first | exact G.kept hw | exact G.kept hS.2.2.2.2 | exact G.kept hS.2.2 | exact G.kept (below_alloc w _))).mono ?_
  rintro e w9 ⟨rfl, hb⟩
  replace hw := hw.trans (hb.mono hw.size)
  go_wp2
  go_ret
  exact ⟨rfl, hw⟩
 | true =>
  have hP0 := Px.ki hs G
  rw [hs] at SMA
  clear hs
  have A1 : Hid (∀ w0, KI w0 cx x → Calls Tryz.prog 10 #[.agg cx.toArray, .int .i64 i] w0 fun e w' => e = .returned (.tuple #[.bool (gaB (kOk x) (kBN x) (kBX x) i), .int .i64 (gaE (kOk x) (kBN x) (kBX x) i)]) ∧ Below w0.heap.size w0 w') := fun w0 h => access_k cx x i w0 h hi
  have A2 : Hid (∀ w0, KI w0 cx x → Calls Tryz.prog 18 #[.agg cx.toArray, .int .i64 i] w0 fun e w' => e = .returned (.tuple #[.bool (gaB (kOk x) (kBN x) (kBX x) i), .int .i64 (gaE (kOk x) (kBN x) (kBX x) i)]) ∧ Below w0.heap.size w0 w') := fun w0 h => v10access_k cx x i w0 h
  have A3 : Hid (∀ w0, KI w0 cx x → Calls Tryz.prog 11 #[.agg cx.toArray, .bool b, .int .i64 i] w0 fun e w' => e = .returned (.tuple #[.int .i64 (grN (kOk x) (kBN x) (kBX x) b i), .int .i64 (grE (kOk x) (kBN x) i)]) ∧ Below w0.heap.size w0 w') := fun w0 h => rank_k cx x b i w0 h hi
  have A4 : Hid (∀ w0, KI w0 cx x → Calls Tryz.prog 19 #[.agg cx.toArray, .bool b, .int .i64 i] w0 fun e w' => e = .returned (.tuple #[.int .i64 (grN (kOk x) (kBN x) (kBX x) b i), .int .i64 (grE (kOk x) (kBN x) i)]) ∧ Below w0.heap.size w0 w') := fun w0 h => v10rank_k cx x b i w0 h
  have A5 : Hid (∀ w0, KI w0 cx x → Calls Tryz.prog 12 #[.agg cx.toArray, .bool b, .int .i64 i] w0 fun e w' => e = .returned (.tuple #[.int .i64 (gsX (kOk x) (kBN x) (kBX x) b i), .int .i64 (gsE (kOk x) (kBN x) (kBX x) b i)]) ∧ Below w0.heap.size w0 w') := fun w0 h => select_k cx x b i w0 h hi
  have A6 : Hid (∀ w0, KI w0 cx x → Calls Tryz.prog 20 #[.agg cx.toArray, .bool b, .int .i64 i] w0 fun e w' => e = .returned (.tuple #[.int .i64 (gsX (kOk x) (kBN x) (kBX x) b i), .int .i64 (gsE (kOk x) (kBN x) (kBX x) b i)]) ∧ Below w0.heap.size w0 w') := fun w0 h => v10select_k cx x b i w0 h
  have A7 : Hid (∀ w0, KI w0 cx x → Calls Tryz.prog 21 #[.agg cx.toArray] w0 fun e w' => e = .returned (.bool (kOk x)) ∧ Below w0.heap.size w0 w') := fun w0 h => check_k cx x w0 h
  have A8 : Hid (∀ w0, KI w0 cx x → Calls Tryz.prog 22 #[.agg cx.toArray] w0 fun e w' => e = .returned (.bool (kOk x)) ∧ Below w0.heap.size w0 w') := fun w0 h => v10check_k cx x w0 h
  have A9 : Hid (∀ w0, KI w0 cx x → Calls Tryz.prog 15 #[.agg cx.toArray] w0 fun e w' => e = .returned (.int .i64 (kZ x)) ∧ Below w0.heap.size w0 w') := fun w0 h => size_k cx x w0 h
  have AA : Hid (∀ w0, KI w0 cx x → Calls Tryz.prog 16 #[.agg cx.toArray] w0 fun e w' => e = .returned (.int .i64 (kZ x)) ∧ Below w0.heap.size w0 w') := fun w0 h => v10size_k cx x w0 h
  have AB : Hid (∀ w0, KI w0 cx x → Calls Tryz.prog 24 #[.agg cx.toArray] w0 fun e w' => ∃ bo bc, e = .returned (.agg #[.int .i64 (kBN x), .slice bo (kBX x).length bc]) ∧ Wd w' bo (kBX x) ∧ Below w0.heap.size w0 w') := fun w0 h => by
   refine (bits_k cx x w0 h).mono ?_
   rintro e w' ⟨bo, bc, rfl, h1, h2, hb⟩
   exact ⟨bo, bc, rfl, h1, hb⟩
  have AC : Hid (∀ w0, KI w0 cx x → Calls Tryz.prog 25 #[.agg cx.toArray] w0 fun e w' => ∃ bo bc, e = .returned (.agg #[.int .i64 (kBN x), .slice bo (kBX x).length bc]) ∧ Wd w' bo (kBX x) ∧ Below w0.heap.size w0 w') := fun w0 h => by
   refine (v10bits_k cx x w0 h).mono ?_
   rintro e w' ⟨bo, bc, rfl, h1, h2, hb⟩
   exact ⟨bo, bc, rfl, h1, hb⟩
  have lX : (kBX x).length ≤ 1048576 := kB_len x
  generalize gaB (kOk x) (kBN x) (kBX x) i = Z0 at *
  generalize gaE (kOk x) (kBN x) (kBX x) i = Z1 at *
  generalize grN (kOk x) (kBN x) (kBX x) b i = Z2 at *
  generalize grE (kOk x) (kBN x) i = Z3 at *
  generalize gsX (kOk x) (kBN x) (kBX x) b i = Z4 at *
  generalize gsE (kOk x) (kBN x) (kBX x) b i = Z5 at *
  generalize kOk x = Z6 at *
  generalize kZ x = Z7 at *
  generalize kBN x = Z8 at *
  generalize kBX x = Z9 at *
  have SB : Hid (∀ w0 bo bc co cc, Wd w0 bo Z9 → Wd w0 co Z9 → Calls Tryz.prog 23 #[.agg #[.int .i64 Z8, .slice bo Z9.length bc], .agg #[.int .i64 Z8, .slice co Z9.length cc]] w0 fun e w' => e = .returned (.bool true) ∧ Below w0.heap.size w0 w') := fun w0 bo bc co cc h h2 => by
   have := same_c Z8 bo Z9 bc Z8 co Z9 cc w0 h h2 lX
   simpa using this
  have hP := hP0.keep (below_alloc w (.cells cx.toArray 37))
  have hB := Cel.new w cx 37
  go_enter Tryz.func5, Tryz.ntmps5
  go_wp2_with (refine load_obj w.heap.size cx (by rfl) rfl hB Tryz.underlying37 LX ?_)
  refine (SMA.out _ hP.arg).mono ?_
  rintro e w1 ⟨rfl, hb⟩
  have hw := (below_alloc w _).trans (hb.mono (by simp))
  replace hP := hP.keep hb
  replace hB := hB.kept hb
  have HL := Hid.mk8 LX
  clear hb SMA hP0 LX
  go_wp2_with (refine load_obj w.heap.size cx (by rfl) rfl hB Tryz.underlying37 HL.out ?_)
  refine (A1.out _ hP).mono ?_
  rintro e w2 ⟨rfl, hb⟩
  replace hP := hP.keep hb
  replace hB := hB.kept hb
  replace hw := hw.trans (hb.mono hw.size)
  clear hb
  go_wp2_with (refine load_obj w.heap.size cx (by rfl) rfl hB Tryz.underlying37 HL.out ?_)
  refine (A2.out _ hP).mono ?_
  rintro e w3 ⟨rfl, hb⟩
  replace hP := hP.keep hb
  replace hB := hB.kept hb
  replace hw := hw.trans (hb.mono hw.size)
  clear hb
  go_wp2_with (refine load_obj w.heap.size cx (by rfl) rfl hB Tryz.underlying37 HL.out ?_)
  refine (A3.out _ hP).mono ?_
  rintro e w4 ⟨rfl, hb⟩
  replace hP := hP.keep hb
  replace hB := hB.kept hb
  replace hw := hw.trans (hb.mono hw.size)
  clear hb
  go_wp2_with (refine load_obj w.heap.size cx (by rfl) rfl hB Tryz.underlying37 HL.out ?_)
  refine (A4.out _ hP).mono ?_
  rintro e w5 ⟨rfl, hb⟩
  replace hP := hP.keep hb
  replace hB := hB.kept hb
  replace hw := hw.trans (hb.mono hw.size)
  clear hb
  go_wp2_with (refine load_obj w.heap.size cx (by rfl) rfl hB Tryz.underlying37 HL.out ?_)
  refine (A5.out _ hP).mono ?_
  rintro e w6 ⟨rfl, hb⟩
  replace hP := hP.keep hb
  replace hB := hB.kept hb
  replace hw := hw.trans (hb.mono hw.size)
  clear hb
  go_wp2_with (refine load_obj w.heap.size cx (by rfl) rfl hB Tryz.underlying37 HL.out ?_)
  refine (A6.out _ hP).mono ?_
  rintro e w7 ⟨rfl, hb⟩
  replace hP := hP.keep hb
  replace hB := hB.kept hb
  replace hw := hw.trans (hb.mono hw.size)
  clear hb
  go_wp2
  refine region_g [22] (fun w' => Cel w' w.heap.size cx 37 ∧ KI w' cx x ∧ Below w.heap.size w w') (by kernel_rfl) ?_
  have bD : ∀ x : World, Below x.heap.size x x.drew := fun x => (Below.refl _ _).drew
  have hS := And.intro (hB.kept (bD _)) (And.intro (hP.keep (bD _)) hw.drew)
  clear hB hP hw bD
  generalize w7.drew = wd at *
  refine AnyG.tf 0 (v := .agg cx.toArray) hS rfl (fun w0 h0 => by exact run_load_obj w.heap.size cx rfl h0.1 Tryz.underlying37 HL.out) ?_
  refine AnyG.tf 2 (v := .agg cx.toArray) hS rfl (fun w0 h0 => by exact run_load_obj w.heap.size cx rfl h0.1 Tryz.underlying37 HL.out) ?_
  refine AnyG.o1 1 ?_
  intro K hK
  go_simp
  refine (A7.out _ hS.2.1).mono ?_
  rintro e wa ⟨rfl, hb⟩
  replace hS := And.intro (hS.1.kept hb) (And.intro (hS.2.1.keep hb) (hS.2.2.trans (hb.mono hS.2.2.size)))
  clear hb
  refine hK.out _ _ (fun _ => hS) ?_
  clear hK K
  try simp only [Act.put, yq0, yq1, yq2, yq3, yq4, yq5]
  refine AnyG.o1 3 ?_
  intro K hK
  go_simp
  refine (A8.out _ hS.2.1).mono ?_
  rintro e wb ⟨rfl, hb⟩
  replace hS := And.intro (hS.1.kept hb) (And.intro (hS.2.1.keep hb) (hS.2.2.trans (hb.mono hS.2.2.size)))
  clear hb
  refine hK.out _ _ (fun _ => hS) ?_
  clear hK K
  try simp only [Act.put, yq0, yq1, yq2, yq3, yq4, yq5]
  refine AnyG.tk 4 hS ?_
  refine AnyG.tk 5 hS ?_
  refine AnyG.tf 6 (v := .agg cx.toArray) hS rfl (fun w0 h0 => by exact run_load_obj w.heap.size cx rfl h0.1 Tryz.underlying37 HL.out) ?_
  refine AnyG.tf 8 (v := .agg cx.toArray) hS rfl (fun w0 h0 => by exact run_load_obj w.heap.size cx rfl h0.1 Tryz.underlying37 HL.out) ?_
  refine AnyG.o1 7 ?_
  intro K hK
  go_simp
  refine (A9.out _ hS.2.1).mono ?_
  rintro e wc ⟨rfl, hb⟩
  replace hS := And.intro (hS.1.kept hb) (And.intro (hS.2.1.keep hb) (hS.2.2.trans (hb.mono hS.2.2.size)))
  clear hb
  refine hK.out _ _ (fun _ => hS) ?_
  clear hK K
  try simp only [Act.put, yq0, yq1, yq2, yq3, yq4, yq5]
  refine AnyG.o1 9 ?_
  intro K hK
  go_simp
  refine (AA.out _ hS.2.1).mono ?_
  rintro e wf ⟨rfl, hb⟩
  replace hS := And.intro (hS.1.kept hb) (And.intro (hS.2.1.keep hb) (hS.2.2.trans (hb.mono hS.2.2.size)))
  clear hb
  refine hK.out _ _ (fun _ => hS) ?_
  clear hK K
  try simp only [Act.put, yq0, yq1, yq2, yq3, yq4, yq5]
  refine AnyG.tk 10 hS ?_
  refine AnyG.tk 11 hS ?_
  refine AnyG.tk 12 hS ?_
  refine AnyG.tf 13 (v := .agg cx.toArray) hS rfl (fun w0 h0 => by exact run_load_obj w.heap.size cx rfl h0.1 Tryz.underlying37 HL.out) ?_
  refine AnyG.tf 15 (v := .agg cx.toArray) hS rfl (fun w0 h0 => by exact run_load_obj w.heap.size cx rfl h0.1 Tryz.underlying37 HL.out) ?_
  refine AnyG.o1 14 ?_
  intro K hK
  go_simp
  refine (AB.out _ hS.2.1).mono ?_
  rintro e wg ⟨bo, bc, rfl, hx1, hb⟩
  replace hS := And.intro (hS.1.kept hb) (And.intro (hS.2.1.keep hb) (hS.2.2.trans (hb.mono hS.2.2.size)))
  clear hb
  refine hK.out _ _ (fun _ => hS) ?_
  clear hK K
  try simp only [Act.put, yq0, yq1, yq2, yq3, yq4, yq5]
  refine AnyG.o1 16 ?_
  intro K hK
  go_simp
  refine (AC.out _ hS.2.1).mono ?_
  rintro e wh ⟨co, cc, rfl, hx2, hb⟩
  replace hS := And.intro (hS.1.kept hb) (And.intro (hS.2.1.keep hb) (hS.2.2.trans (hb.mono hS.2.2.size)))
  replace hx1 := hx1.keep hb
  clear hb
  refine hK.out _ _ (fun _ => hS) ?_
  clear hK K
  try simp only [Act.put, yq0, yq1, yq2, yq3, yq4, yq5]
  refine AnyG.o1 17 ?_
  intro K hK
  go_simp
  refine (SB.out _ _ _ _ _ hx1 hx2).mono ?_
  rintro e wi ⟨rfl, hb⟩
  replace hS := And.intro (hS.1.kept hb) (And.intro (hS.2.1.keep hb) (hS.2.2.trans (hb.mono hS.2.2.size)))
  clear hb
  refine hK.out _ _ (fun _ => hS) ?_
  clear hK K
  try simp only [Act.put, yq0, yq1, yq2, yq3, yq4, yq5]
  refine AnyG.tk 18 hS ?_
  refine AnyG.tk 19 hS ?_
  refine AnyG.o1 20 ?_
  intro K hK
  go_simp
  refine (heads_c _ (by first | exact G.kept hw | exact G.kept hS.2.2.2.2 | exact G.kept hS.2.2 | exact G.kept (below_alloc w _))).mono ?_
  rintro e wj ⟨rfl, hb⟩
  replace hS := And.intro (hS.1.kept hb) (And.intro (hS.2.1.keep hb) (hS.2.2.trans (hb.mono hS.2.2.size)))
  clear hb
  refine hK.out _ _ (fun _ => hS) ?_
  clear hK K
  try simp only [Act.put, yq0, yq1, yq2, yq3, yq4, yq5]
  refine AnyG.tk 21 hS ?_
  refine AnyG.o1 22 ?_
  intro K hK
  go_simp
  refine hK.out _ _ (fun h => absurd (by decide) h) ?_
  clear hK K
  try simp only [Act.put, yq0, yq1, yq2, yq3, yq4, yq5]
  refine AnyG.done (by kernel_rfl) ?_ _
  go_wp2
  go_ret
  exact ⟨rfl, hS.2.2⟩
theorem door_met (os : Os) (args : Array Value) : laidMetH Tryz.prog [("errors.errorType", Rows.laid_errors_errorType), ("haystack/rrr.ways", Rows.laid_haystack_rrr_ways), ("haystack/rrr.widths", Rows.laid_haystack_rrr_widths)] ((World.doorLaid Tryz.prog 400 os).forCall (fun _ _ => 0) ⟨#[], args, []⟩).memory :=
 laidMetH_of_parts3 (fuel := 8) (laidMet_of_run' 8 (by kernel_rfl) (by kernel_rfl)) (by kernel_rfl) (by kernel_rfl)
theorem lifted (os : Os) (started : os.Started) (H : Type) (enc : TypeId × Value → H) :
  ReturnsInHanded {} Tryz.checked os 5 .any (fun w args => (Rows.vectorTellsSpec.pre enc Tryz.prog Tryz.f5 [] false w args ∧ laidMetH Tryz.prog [("errors.errorType", Rows.laid_errors_errorType), ("haystack/rrr.ways", Rows.laid_haystack_rrr_ways), ("haystack/rrr.widths", Rows.laid_haystack_rrr_widths)] w) ∧ sizedMet enc Tryz.prog Tryz.f5 (OpenSpec.ofChange Rows.vectorTellsSpec) false w args)
   (Rows.vectorTellsSpec.post enc Tryz.prog Tryz.f5 false true false false) := by
 refine returnsInHanded_of_change_and (C := Tryz.checked) (X := fun w _ => laidMetH Tryz.prog [("errors.errorType", Rows.laid_errors_errorType), ("haystack/rrr.ways", Rows.laid_haystack_rrr_ways), ("haystack/rrr.widths", Rows.laid_haystack_rrr_widths)] w) (fun _ _ _ hh h => h.of_heap hh) own started (by kernel_rfl) Tryz.func5
  (ChangeSpec.witness_shaped (enc := enc) (C := Tryz.checked) (os := os) (X := fun w _ => laidMetH Tryz.prog [("errors.errorType", Rows.laid_errors_errorType), ("haystack/rrr.ways", Rows.laid_haystack_rrr_ways), ("haystack/rrr.widths", Rows.laid_haystack_rrr_widths)] w) false (World.doorLaid Tryz.prog 400 os) #[.agg #[.int .i64 0, .int .i64 0, .slice none 0 0, .slice none 0 0, .slice none 0 0, .int .i64 0, .int .i64 0, .int .i64 0, .int .i64 0, .slice none 0 0, .int .i64 0, .slice none 0 0, .slice none 0 0, .slice none 0 0, .int .i64 0, .int .i64 0, .int .i64 0, .int .i64 0, .int .i64 0, .slice none 0 0, .int .i64 0, .slice none 0 0], .bool false, .int .i64 0] 8 rfl (World.shaped_of_RefB (by kernel_rfl) (by kernel_rfl)) (by kernel_rfl) (by kernel_rfl) (by kernel_rfl) (door_met os _)) ?_
 intro W base args ds gs before hval0 hW _ _ hL _
 have hval : ∀ (j : Nat) t v, Tryz.f5.params[j]? = some t → args[j]? = some v → Value.okWide Tryz.prog W .any base t v := hval0
 have hW' := hW
 obtain ⟨p, q, hA0, hV, rfl, hfz, hnd⟩ := hW
 have hA : DataW.TrodAll enc Tryz.prog W 0 (fun _ => true) true Tryz.f5.params.toList args.toList ds p := hA0
 rw [Tryz.params5] at hA hval
 obtain ⟨v0, vs0, d0, ds0, p0, q0, hargs, rfl, rfl, h0, r0⟩ := trodAll_cons hA
 obtain ⟨v1, vs1, d1, ds1, p1, q1, rfl, rfl, rfl, h1, r1⟩ := trodAll_cons r0
 obtain ⟨v2, vs2, d2, ds2, p2, q2, rfl, rfl, rfl, h2, r2⟩ := trodAll_cons r1
 obtain ⟨rfl, rfl, rfl⟩ := trodAll_nil r2
 obtain rfl : args = #[v0, v1, v2] := by cases args; simp_all
 obtain ⟨rfl, rfl⟩ := trodVars_none hV
 have k0 := h0
 have lt0 : ∀ x ∈ p0, x.block < W.heap.size := by obtain ⟨m, hm⟩ := k0; exact DataW.trod_lt m _ _ _ hm
 obtain ⟨cx, x, rfl, bx1⟩ := open_obj (hval 0 37 v0 rfl rfl) h0
 obtain ⟨b, rfl, rfl, rfl⟩ := open_bool Tryz.underlying4 (hval 1 4 v1 rfl rfl) h1
 obtain ⟨i, rfl, rfl, rfl, w2⟩ := open_int Tryz.underlying3 (hval 2 3 v2 rfl rfl) h2
 clear hA0 hval0
 refine (walk W (gv_of_laid hL) cx x bx1 b i (i64_wf _ w2)).mono fun e W' ⟨he, bel⟩ => ?_
 subst he
 exact ⟨_, rfl, _, _, _, [], _, [], hW', trodAll_mk1 (shut_bool Tryz.underlying4 _), (trodAll_cons_mk (Below.trod laidOut (by kernel_rfl) (of_decide_eq_true (by kernel_rfl)) k0 bel lt0) (trodAll_cons_mk (shut_bool Tryz.underlying4 b) (trodAll_cons_mk (shut_int Tryz.underlying3 w2) trodAll_mk0))), rfl, bel.frame _, fun h => by cases h⟩
theorem closed : joinedFacts Tryz.prog 5 Tryz.f5 Rows.vectorTellsSpec Rows.vectorTellsRow = true := by
 unfold joinedFacts
 repeat' (with_reducible apply and_tt)
 all_goals decide +kernel
theorem over : Rows.vectorTellsRow.holds Tryz.pinned (OpenSpec.ofChange Rows.vectorTellsSpec) :=
 OpenClaim.holds_of_wide 5 Tryz.f5 rfl rfl rfl rfl rfl rfl rfl ⟨rfl, rfl, rfl, rfl, rfl⟩ rfl rfl rfl rfl rfl (by kernel_rfl) Tryz.func5 closed
  (of_decide_eq_true (by kernel_rfl)) (by unfold Func.isWrapper; first | (rw [if_pos (by decide +kernel)]; kernel_rfl) | (rw [if_neg (by decide +kernel)]; exact ⟨rfl, rfl⟩))
  (fun os started H enc _ => lifted os started H enc)
theorem proved : Rows.VectorTellsCardSaid :=
 Claim7.holds_tied_plain_at .later [] [.handle, .data, .data] true (true, "2bd0379edccf0840bff9a4e248c1b4fe7872517fd67d6c1943d395fa38030269") true
  over (fun _ h => by cases h) (by kernel_rfl) (fun _ h => by cases h) vectorTells_row_tie rfl ⟨rfl, rfl⟩ (by kernel_rfl) rfl
  (fun f fn hf hfn => by
   obtain rfl : f = 5 := Option.some.inj ((show Tryz.prog.funcNamed "haystack/haystacklaw10.VectorTells" = some 5 by kernel_rfl).symm.trans hf) |>.symm
   obtain rfl : fn = Tryz.f5 := (Option.some.inj (Tryz.func5.symm.trans hfn)).symm
   exact ⟨by kernel_rfl, fun j t ht => by
    rw [Tryz.params5] at ht
    have hm : t ∈ [37, 4, 3] := by simpa using Array.mem_of_getElem? ht
    have hall : ([37, 4, 3].all fun u => !Tryz.prog.wantsStandIn u) = true := by kernel_rfl
    exact (show Tryz.prog.wantsStandIn t = false by simpa using List.all_eq_true.1 hall t hm)⟩)
  (by kernel_rfl)
end Go.Proofs.YtpeecabfcgijhaaGreatDoor.vectorTells
namespace Go.Proofs.YtpeecabfcgijhaaGreatDoor
theorem vectorTells_holds : Rows.VectorTellsCardSaid := vectorTells.proved
#print axioms vectorTells_holds
end Go.Proofs.YtpeecabfcgijhaaGreatDoor
