/-
  PlannerRows: no row of the document's layer 10, of at most 2000 bits, needs more bits than the planner's Row tells.
-/
import Derived.Test.YtcaalcjcpddhaaaGreatS53
import Derived.Test.YtcaalcjcpddhaaaGreatS52
import Derived.Test.YtcaalcjcpddhaaaGreatS27
import Derived.ChangeOld
set_option linter.unusedVariables false
set_option linter.unusedSimpArgs false
set_option maxRecDepth 100000
namespace Go.Proofs.YtcaalcjcpddhaaaGreat.plannerRows
open Go.ChangeShapes Go.WideShapes Go.ChangeAt Go.RowKit Num Bit
set_option maxHeartbeats 4000000 in
theorem walk (w : World) (kd : Int) (hkd : -9223372036854775808 ≤ kd ∧ kd ≤ 9223372036854775807) (Nb : Int) (ab : Option Addr) (xb : List Nat) (cb : Nat) (hbN : -9223372036854775808 ≤ Nb ∧ Nb ≤ 9223372036854775807) (Xb : Wd w ab xb) (Fb : Fit xb) (Cb : xb.length ≤ cb) :
  Calls Tryz.prog 3 #[.int .i64 kd, .agg #[.int .i64 Nb, .slice ab xb.length cb]] w fun e w' => e = .returned (.bool true) ∧ Below w.heap.size w w' := by
 have HH := hide (fun w0 => Zz.heads21_c w0)
 by_cases q1 : 2000 < Nb
 ·go_enter Tryz.func3, Tryz.ntmps3
  go_wp2_with fail
  refine (HH.out _).mono ?_
  rintro e w9 ⟨rfl, hb⟩
  go_wp2
  go_ret
  exact ⟨rfl, (below_alloc w _).trans (hb.mono (by simp))⟩
 by_cases q2 : (2000 : Int) < (xb.length : Int)
 ·go_enter Tryz.func3, Tryz.ntmps3
  go_wp2_with fail
  refine (HH.out _).mono ?_
  rintro e w9 ⟨rfl, hb⟩
  go_wp2
  go_ret
  exact ⟨rfl, (below_alloc w _).trans (hb.mono (by simp))⟩
 have hlx : xb.length ≤ 1048576 := by omega
 have H1 : Hid (∀ w0, Below w.heap.size w w0 → Calls Tryz.prog 5 #[.int .i64 kd, .agg #[.int .i64 Nb, .slice ab xb.length cb]] w0 fun e w' => ∃ cs : List Value, e = .returned (.tuple #[.agg cs.toArray, .int .i64 (kE kd Nb xb)]) ∧ KI w' cs (kB kd Nb xb) ∧ Below w0.heap.size w0 w') := fun w0 h => (vbuild_k kd Nb ab xb cb w0 hkd hbN (Xb.keep h) Fb Cb ⟨by omega, hlx⟩ ⟨trivial⟩).mono fun e w' ⟨cs, h1, h2, h3, _⟩ => ⟨cs, h1, h2, h3⟩
 have LE : Hid (kE kd Nb xb = 0 → kZ (kB kd Nb xb) ≤ (Zz.Pn.rowI kd Nb (onesI Nb xb Nb) : Int)) := fun h => kZ_row kd Nb xb Fb h (by omega)
 have H3 : Hid (∀ w0, Below w.heap.size w w0 → Calls Tryz.prog 8 #[.agg #[.int .i64 Nb, .slice ab xb.length cb], .int .i64 Nb] w0 fun e w' => e = .returned (.int .i64 (onesI Nb xb Nb)) ∧ Below w0.heap.size w0 w') := fun w0 h => refones_c Nb ab xb cb Nb w0 (Xb.keep h) Fb
 have H4 : Hid (∀ w0, Calls Tryz.prog 7 #[.int .i64 kd, .int .i64 Nb, .int .i64 (onesI Nb xb Nb)] w0 fun e w' => e = .returned (.int .i64 (Zz.Pn.rowI kd Nb (onesI Nb xb Nb) : Nat)) ∧ Below w0.heap.size w0 w') := fun w0 => Zz.prow_c _ _ _ w0
 have H2 : Hid (∀ w0 cs, KI w0 cs (kB kd Nb xb) → Calls Tryz.prog 6 #[.agg cs.toArray] w0 fun e w' => e = .returned (.int .i64 (kZ (kB kd Nb xb))) ∧ Below w0.heap.size w0 w') := fun w0 cs h => v10size_k cs _ w0 h
 generalize kZ (kB kd Nb xb) = Z1 at *
 generalize kB kd Nb xb = A1 at *
 generalize kE kd Nb xb = E1 at *
 generalize onesI Nb xb Nb = O1 at *
 generalize Zz.Pn.rowI kd Nb O1 = R1 at *
 go_enter Tryz.func3, Tryz.ntmps3
 go_wp2_with fail
 refine (H1.out _ (below_alloc w _)).mono ?_
 rintro e w1 ⟨cs, rfl, hP1, hb⟩
 have hw := (below_alloc w _).trans (hb.mono (by simp))
 have B0 := (Cel.new w [.int .i64 Nb, .slice ab xb.length cb] 24).kept hb
 clear hb H1
 go_wp2_with (refine store_cel w1.heap.size [.int .i64 0, .int .i64 0, .slice none 0 0, .slice none 0 0, .slice none 0 0, .int .i64 0, .int .i64 0, .int .i64 0, .int .i64 0, .slice none 0 0, .int .i64 0, .slice none 0 0, .slice none 0 0, .slice none 0 0, .int .i64 0, .int .i64 0, .int .i64 0, .int .i64 0, .int .i64 0, .slice none 0 0, .int .i64 0, .slice none 0 0] cs rfl rfl (Cel.new w1 [.int .i64 0, .int .i64 0, .slice none 0 0, .slice none 0 0, .slice none 0 0, .int .i64 0, .int .i64 0, .int .i64 0, .int .i64 0, .slice none 0 0, .int .i64 0, .slice none 0 0, .slice none 0 0, .slice none 0 0, .int .i64 0, .int .i64 0, .int .i64 0, .int .i64 0, .int .i64 0, .slice none 0 0, .int .i64 0, .slice none 0 0] 36) hP1.arg.nine hP1.arg.len hP1.arg.one ?_)
 intro w2 Bw2 Ow2
 have bw2 : Below w1.heap.size w1 w2 := (below_alloc w1 _).trans (Ow2.below (Nat.le_refl _))
 replace hP1 := hP1.keep bw2
 replace hw := hw.trans (bw2.mono hw.size)
 replace B0 := B0.kept bw2
 clear Ow2 bw2
 generalize w1.heap.size = g1 at *
 by_cases hE : E1 = 0
 ·have LE2 := LE.out hE
  subst hE
  have L1 := Hid.mk8 hP1.arg.len
  clear LE
  go_wp2
  refine region_g [14] (fun w' => Cel w' g1 cs 36 ∧ Cel w' w.heap.size [.int .i64 Nb, .slice ab xb.length cb] 24 ∧ KI w' cs A1 ∧ Below w.heap.size w w') (by kernel_rfl) ?_
  have bD : ∀ x : World, Below x.heap.size x x.drew := fun x => (Below.refl _ _).drew
  have hS := And.intro (Bw2.kept (bD _)) (And.intro (B0.kept (bD _)) (And.intro (hP1.keep (bD _)) hw.drew))
  clear Bw2 B0 hP1 hw bD
  generalize w2.drew = wd at *
  refine AnyG.take 0 (v := .agg cs.toArray) rfl (by kernel_rfl) (by kernel_rfl) (by kernel_rfl) (by kernel_rfl) (fun _ _ _ h => h) hS ?hy0 (by rfl) ?rest0
  case hy0 =>
   intro w0 h0
   exact run_load_obj g1 cs rfl h0.1 Tryz.underlying36 L1.out
  try simp only [Act.put, yq0, yq1, yq2, yq3, yq4, yq5]
  refine AnyG.take 2 (v := ?vv1) rfl (by kernel_rfl) (by kernel_rfl) (by kernel_rfl) (by kernel_rfl) (fun _ _ _ h => h) hS ?hy1 (by rfl) ?rest1
  case hy1 =>
   intro w0 h0
   have c0 := h0.2.1.cell 0 rfl
   have c1 := h0.2.1.cell 1 rfl
   go_simp
   try with_reducible rfl
  simp only [Act.put, yq0, yq1, yq2, yq3, yq4, yq5]
  refine AnyG.take 3 (v := ?vv2) rfl (by kernel_rfl) (by kernel_rfl) (by kernel_rfl) (by kernel_rfl) (fun _ _ _ h => h) hS ?hy2 (by rfl) ?rest2
  case hy2 =>
   intro w0 h0
   have c0 := h0.2.1.cell 0 rfl
   have c1 := h0.2.1.cell 1 rfl
   go_simp
   try with_reducible rfl
  simp only [Act.put, yq0, yq1, yq2, yq3, yq4, yq5]
  refine AnyG.take 4 (v := ?vv3) rfl (by kernel_rfl) (by kernel_rfl) (by kernel_rfl) (by kernel_rfl) (fun _ _ _ h => h) hS ?hy3 (by rfl) ?rest3
  case hy3 =>
   intro w0 h0
   have c0 := h0.2.1.cell 0 rfl
   have c1 := h0.2.1.cell 1 rfl
   go_simp
   try with_reducible rfl
  simp only [Act.put, yq0, yq1, yq2, yq3, yq4, yq5]
  refine AnyG.take 5 (v := ?vv4) rfl (by kernel_rfl) (by kernel_rfl) (by kernel_rfl) (by kernel_rfl) (fun _ _ _ h => h) hS ?hy4 (by rfl) ?rest4
  case hy4 =>
   intro w0 h0
   have c0 := h0.2.1.cell 0 rfl
   have c1 := h0.2.1.cell 1 rfl
   go_simp
   try with_reducible rfl
  simp only [Act.put, yq0, yq1, yq2, yq3, yq4, yq5]
  refine AnyG.take 6 (v := ?vv5) rfl (by kernel_rfl) (by kernel_rfl) (by kernel_rfl) (by kernel_rfl) (fun _ _ _ h => h) hS ?hy5 (by rfl) ?rest5
  case hy5 =>
   intro w0 h0
   have c0 := h0.2.1.cell 0 rfl
   have c1 := h0.2.1.cell 1 rfl
   go_simp
   try with_reducible rfl
  simp only [Act.put, yq0, yq1, yq2, yq3, yq4, yq5]
  refine AnyG.take 7 (v := ?vv6) rfl (by kernel_rfl) (by kernel_rfl) (by kernel_rfl) (by kernel_rfl) (fun _ _ _ h => h) hS ?hy6 (by rfl) ?rest6
  case hy6 =>
   intro w0 h0
   have c0 := h0.2.1.cell 0 rfl
   have c1 := h0.2.1.cell 1 rfl
   go_simp
   try with_reducible rfl
  simp only [Act.put, yq0, yq1, yq2, yq3, yq4, yq5]
  refine AnyG.one 1 (by kernel_rfl) rfl ?_
  intro K hK
  go_simp
  refine (H2.out _ _ hS.2.2.1).mono ?_
  rintro e w3 ⟨rfl, hb⟩
  replace hS := And.intro (hS.1.kept hb) (And.intro (hS.2.1.kept hb) (And.intro (hS.2.2.1.keep hb) (hS.2.2.2.trans (hb.mono hS.2.2.2.size))))
  clear hb
  refine hK.out _ _ (fun _ => hS) ?_
  clear hK K
  try simp only [Act.put, yq0, yq1, yq2, yq3, yq4, yq5]
  refine AnyG.one 8 (by kernel_rfl) rfl ?_
  intro K hK
  go_simp
  refine (H3.out _ hS.2.2.2).mono ?_
  rintro e w4 ⟨rfl, hb⟩
  replace hS := And.intro (hS.1.kept hb) (And.intro (hS.2.1.kept hb) (And.intro (hS.2.2.1.keep hb) (hS.2.2.2.trans (hb.mono hS.2.2.2.size))))
  clear hb
  refine hK.out _ _ (fun _ => hS) ?_
  clear hK K
  try simp only [Act.put, yq0, yq1, yq2, yq3, yq4, yq5]
  refine AnyG.one 9 (by kernel_rfl) rfl ?_
  intro K hK
  go_simp
  refine (H4.out _).mono ?_
  rintro e w5 ⟨rfl, hb⟩
  replace hS := And.intro (hS.1.kept hb) (And.intro (hS.2.1.kept hb) (And.intro (hS.2.2.1.keep hb) (hS.2.2.2.trans (hb.mono hS.2.2.2.size))))
  clear hb
  refine hK.out _ _ (fun _ => hS) ?_
  clear hK K
  try simp only [Act.put, yq0, yq1, yq2, yq3, yq4, yq5]
  refine AnyG.take 10 (v := ?vv7) rfl (by kernel_rfl) (by kernel_rfl) (by kernel_rfl) (by kernel_rfl) (fun _ _ _ h => h) hS ?hy7 (by rfl) ?rest7
  case hy7 =>
   intro w0 h0
   go_simp
   try with_reducible rfl
  simp only [Act.put, yq0, yq1, yq2, yq3, yq4, yq5]
  refine AnyG.take 11 (v := ?vv8) rfl (by kernel_rfl) (by kernel_rfl) (by kernel_rfl) (by kernel_rfl) (fun _ _ _ h => h) hS ?hy8 (by rfl) ?rest8
  case hy8 =>
   intro w0 h0
   go_simp
   try with_reducible rfl
  simp only [Act.put, yq0, yq1, yq2, yq3, yq4, yq5]
  refine AnyG.one 12 (by kernel_rfl) rfl ?_
  intro K hK
  go_simp
  refine (HH.out _).mono ?_
  rintro e w6 ⟨rfl, hb⟩
  replace hS := And.intro (hS.1.kept hb) (And.intro (hS.2.1.kept hb) (And.intro (hS.2.2.1.keep hb) (hS.2.2.2.trans (hb.mono hS.2.2.2.size))))
  clear hb
  refine hK.out _ _ (fun _ => hS) ?_
  clear hK K
  try simp only [Act.put, yq0, yq1, yq2, yq3, yq4, yq5]
  refine AnyG.take 13 (v := ?vv9) rfl (by kernel_rfl) (by kernel_rfl) (by kernel_rfl) (by kernel_rfl) (fun _ _ _ h => h) hS ?hy9 (by rfl) ?rest9
  case hy9 =>
   intro w0 h0
   go_simp
   try with_reducible rfl
  simp only [Act.put, yq0, yq1, yq2, yq3, yq4, yq5]
  refine AnyG.one 14 (by kernel_rfl) rfl ?_
  intro K hK
  go_simp
  refine hK.out _ _ (fun h => absurd (by decide) h) ?_
  clear hK K
  try simp only [Act.put, yq0, yq1, yq2, yq3, yq4, yq5]
  refine AnyG.done (by kernel_rfl) ?_ _
  go_wp2
  go_ret
  exact ⟨rfl, hS.2.2.2⟩
 ·have hz : (E1 != 0) = true := by simp [hE]
  clear LE
  go_wp2_with fail
  refine (HH.out _).mono ?_
  rintro e w9 ⟨rfl, hb⟩
  replace hw := hw.trans (hb.mono hw.size)
  go_wp2
  go_ret
  exact ⟨rfl, hw⟩
theorem lifted (os : Os) (started : os.Started) (H : Type) (enc : TypeId × Value → H) :
  ReturnsInHanded {} Tryz.checked os 3 .any (Rows.plannerRowsSpec.pre6 enc Tryz.prog Tryz.f3 Rows.plannerRowsRow.domain false) (Rows.plannerRowsSpec.post enc Tryz.prog Tryz.f3 false true false false) := by
 refine returnsInHanded_of_change (C := Tryz.checked) own started (by kernel_rfl) Tryz.func3
  (ChangeSpec.witness6 (enc := enc) (C := Tryz.checked) false ⟨#[], #[.int .i64 0, .agg #[.int .i64 0, .slice none 0 0]], []⟩ 8 (by kernel_rfl) (by kernel_rfl) (by kernel_rfl) (by kernel_rfl)) ?_
 intro W base args ds gs before hval0 hW hcnd _
 have hval : ∀ (j : Nat) t v, Tryz.f3.params[j]? = some t → args[j]? = some v → Value.okWide Tryz.prog W .any base t v := hval0
 have hW' := hW
 obtain ⟨p, q, hA0, hV, rfl, hfz, hnd⟩ := hW
 have hA : DataW.TrodAll enc Tryz.prog W 0 (fun _ => true) true Tryz.f3.params.toList args.toList ds p := hA0
 rw [Tryz.params3] at hA hval
 obtain ⟨v0, vs0, d0, ds0, p0, q0, hargs, rfl, rfl, h0, r0⟩ := trodAll_cons hA
 obtain ⟨v1, vs1, d1, ds1, p1, q1, rfl, rfl, rfl, h1, r1⟩ := trodAll_cons r0
 obtain ⟨rfl, rfl, rfl⟩ := trodAll_nil r1
 obtain rfl : args = #[v0, v1] := by cases args; simp_all
 obtain ⟨rfl, rfl⟩ := trodVars_none hV
 obtain ⟨k, rfl, rfl, rfl, w0⟩ := open_int Tryz.underlying3 (hval 0 3 v0 rfl rfl) h0
 have k1 := h1
 have lt1 : ∀ x ∈ p1, x.block < W.heap.size := by obtain ⟨m, hm⟩ := k1; exact DataW.trod_lt m _ _ _ hm
 obtain ⟨Nb, ab, xb, cb, rfl, bb1, bb2, bb3, bb4⟩ := open_bits (hval 1 24 v1 rfl rfl) h1
 clear hA0 hval0
 refine (walk W k (i64_wf _ w0) Nb ab xb cb bb1 bb2 bb3 bb4).mono fun e W' ⟨he, bel⟩ => ?_
 subst he
 exact ⟨_, rfl, _, _, _, [], _, [], hW', trodAll_mk1 (shut_bool Tryz.underlying4 _), (trodAll_cons_mk (shut_int Tryz.underlying3 w0) (trodAll_cons_mk (Below.trod laidOut (by kernel_rfl) (of_decide_eq_true (by kernel_rfl)) k1 bel lt1) trodAll_mk0)), rfl, bel.frame _, fun h => by cases h⟩
theorem over : Rows.plannerRowsRow.holds Tryz.pinned (OpenSpec.ofChange Rows.plannerRowsSpec) :=
 OpenClaim.holds_of_wide 3 Tryz.f3 rfl rfl rfl rfl rfl rfl rfl ⟨rfl, rfl, rfl, rfl, rfl⟩ rfl rfl rfl rfl rfl (by kernel_rfl) Tryz.func3 (by kernel_rfl)
  (of_decide_eq_true (by kernel_rfl)) (by unfold Func.isWrapper; first | (rw [if_pos (by decide +kernel)]; kernel_rfl) | (rw [if_neg (by decide +kernel)]; exact ⟨rfl, rfl⟩))
  (fun os started H enc _ => lifted os started H enc)
theorem proved : Rows.PlannerRowsSaid := over
end Go.Proofs.YtcaalcjcpddhaaaGreat.plannerRows
namespace Go.Proofs.YtcaalcjcpddhaaaGreat
theorem plannerRows_holds : Rows.PlannerRowsSaid := plannerRows.proved
#print axioms plannerRows_holds
end Go.Proofs.YtcaalcjcpddhaaaGreat
